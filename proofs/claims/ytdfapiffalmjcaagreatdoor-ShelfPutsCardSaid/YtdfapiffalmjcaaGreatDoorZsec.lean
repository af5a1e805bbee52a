/- ShelfPuts. -/
import Derived.Test.YtdfapiffalmjcaaGreatDoorZsaj
import Derived.Test.YtdfapiffalmjcaaGreatDoorZsad
import Derived.Test.YtdfapiffalmjcaaGreatDoorZsea
import Derived.Test.YtdfapiffalmjcaaGreatDoorZsat
import Derived.Test.YtdfapiffalmjcaaGreatDoorZseb
import Derived.Test.YtdfapiffalmjcaaGreatDoorZsaw
import Derived.Test.YtdfapiffalmjcaaGreatDoorZsaq
import Derived.Test.YtdfapiffalmjcaaGreatDoorZsai
import Derived.Deep.Cut
import Derived.Deep.RegionHeld3
namespace Go.Proofs.YtdfapiffalmjcaaGreatDoor
section
open Go.RowKit Go.Lib
set_option linter.unusedSimpArgs false
set_option linter.unusedVariables false


theorem shJoin_mem {a b : List EvP} {e : EvP} (h : e ∈ (shJoinE a b).2) : e ∈ a ∨ e ∈ b := by
  unfold shJoinE at h
  split at h
  · exact puts_mem h
  · simp at h
theorem shJoin_len (a b : List EvP) : (shJoinE a b).2.length ≤ a.length + b.length := by
  unfold shJoinE
  split
  · exact puts_len b a
  · simp
set_option maxHeartbeats 4000000 in
theorem setC7 {w : World} {s0 : Nat} {a0 a1 a2 a3 a4 a5 a6 : Value} {T : TypeId} (v0 v1 v2 v3 v4 v5 v6 : Value) (q0 : w.heap[s0]? = some (.cells #[a0, a1, a2, a3, a4, a5, a6] T (0, 0))) :
    (((((((w.setCell ⟨s0, 0, none⟩ v0).setCell ⟨s0, 1, none⟩ v1).setCell ⟨s0, 2, none⟩ v2).setCell ⟨s0, 3, none⟩ v3).setCell ⟨s0, 4, none⟩ v4).setCell ⟨s0, 5, none⟩ v5).setCell ⟨s0, 6, none⟩ v6).heap[s0]? = some (.cells #[v0, v1, v2, v3, v4, v5, v6] T (0, 0)) ∧ (∀ (s1 : Nat) (o : Obj), s0 ≠ s1 → w.heap[s1]? = some o → (((((((w.setCell ⟨s0, 0, none⟩ v0).setCell ⟨s0, 1, none⟩ v1).setCell ⟨s0, 2, none⟩ v2).setCell ⟨s0, 3, none⟩ v3).setCell ⟨s0, 4, none⟩ v4).setCell ⟨s0, 5, none⟩ v5).setCell ⟨s0, 6, none⟩ v6).heap[s1]? = some o) ∧ Chg [s0] w (((((((w.setCell ⟨s0, 0, none⟩ v0).setCell ⟨s0, 1, none⟩ v1).setCell ⟨s0, 2, none⟩ v2).setCell ⟨s0, 3, none⟩ v3).setCell ⟨s0, 4, none⟩ v4).setCell ⟨s0, 5, none⟩ v5).setCell ⟨s0, 6, none⟩ v6) := by
  have p0 := heap_setCell_same _ s0 0 _ _ v0 q0
  have p1 := heap_setCell_same _ s0 1 _ _ v1 p0
  have p2 := heap_setCell_same _ s0 2 _ _ v2 p1
  have p3 := heap_setCell_same _ s0 3 _ _ v3 p2
  have p4 := heap_setCell_same _ s0 4 _ _ v4 p3
  have p5 := heap_setCell_same _ s0 5 _ _ v5 p4
  have p6 := heap_setCell_same _ s0 6 _ _ v6 p5
  refine ⟨p6, fun s1 o h q1 => ?_, ?_⟩
  · rw [Below.heap_setCell _ _ _ _ (by simp; exact fun e => h e.symm), Below.heap_setCell _ _ _ _ (by simp; exact fun e => h e.symm), Below.heap_setCell _ _ _ _ (by simp; exact fun e => h e.symm), Below.heap_setCell _ _ _ _ (by simp; exact fun e => h e.symm), Below.heap_setCell _ _ _ _ (by simp; exact fun e => h e.symm), Below.heap_setCell _ _ _ _ (by simp; exact fun e => h e.symm), Below.heap_setCell _ _ _ _ (by simp; exact fun e => h e.symm)]
    exact q1
  · exact ((((((((Chg.refl [s0] w).put' 0 v0).put' 1 v1).put' 2 v2).put' 3 v3).put' 4 v4).put' 5 v5).put' 6 v6)

theorem ApartE.more {w w' : World} {A : Option Addr} {xs : List EvT} (h : ApartE w A xs) (hs : w.heap.size ≤ w'.heap.size) : ApartE w' A xs := fun x hx =>
  ⟨fun a ha => ⟨Nat.lt_of_lt_of_le ((h x hx).1 a ha).1 hs, ((h x hx).1 a ha).2⟩, fun a ha => ⟨Nat.lt_of_lt_of_le ((h x hx).2.1 a ha).1 hs, ((h x hx).2.1 a ha).2⟩, (h x hx).2.2⟩
theorem OwnB.lt8_ {w : World} {A : Option Addr} {c : Nat} {xs : List UInt8} (h : OwnB w A c xs) : ∀ a, A = some a → a.block < w.heap.size := by
  rcases h with ⟨rfl, _⟩ | ⟨g, full, rfl, hg, _⟩
  · intro a ha; cases ha
  · intro a ha; cases ha; exact lt_of_heap hg
theorem joinS9 {α β γ δ ε ζ η θ ι : Type} {F R : α → β → γ → δ → ε → ζ → η → θ → ι → Prop} {G : Prop} (h1 : (∀ a b c d e f g h i, F a b c d e f g h i → R a b c d e f g h i) → G) (h2 : ∀ a b c d e f g h i, F a b c d e f g h i → R a b c d e f g h i) : G := h1 h2
theorem copyev_x (w : World) (x : EvT) (e : EvP) (h : EvR w x e) (hs : e.b.length ≤ 140737488351232 ∧ e.q.length ≤ 100000) :
    Calls Tryz.prog 9 #[.agg #[.int .i64 x.n, .int .i64 x.s, .string x.p, .int .i64 x.k, .int .i64 x.m, .slice x.A x.l x.c, .slice x.B x.bl x.bc]] w fun r w' => ∃ X : EvT, r = .returned (.agg #[.int .i64 X.n, .int .i64 X.s, .string X.p, .int .i64 X.k, .int .i64 X.m, .slice X.A X.l X.c, .slice X.B X.bl X.bc]) ∧ EvR w' X e ∧ OwnB w' X.A X.c e.b ∧ OwnK spanTy w' X.B X.bc e.q ∧ (∀ a, X.A = some a → w.heap.size ≤ a.block) ∧ (∀ a, X.B = some a → w.heap.size ≤ a.block) ∧ (∀ a b, X.A = some a → X.B = some b → a.block ≠ b.block) ∧ Chg [] w w' :=
  (copyev_any w x e h hs).mono fun r w' ⟨A', c', B', d', e1, e2, e3, e4, e5, e6, e7, e8⟩ => ⟨⟨x.n, x.s, x.p, x.k, x.m, A', x.l, c', B', x.bl, d'⟩, e1, e2, e3, e4, e5, e6, e7, e8⟩
set_option maxRecDepth 100000 in
set_option maxHeartbeats 32000000 in
theorem shelfputs_yes (w : World) (A : Option Addr) (n c : Nat) (xs : List EvT) (es : List EvP) (hb : RdK evTy w A n xs) (hr : EvsR w xs es) (hn : n * 96 ≤ 140737488351232) (hm : n ≤ c) (hz : ∀ (i : Nat) (x : EvT) (e : EvP), xs[i]? = some x → es[i]? = some e → EvZ x e) (B : Option Addr) (m d : Nat) (ys : List EvT) (fs : List EvP) (hb' : RdK evTy w B m ys) (hr' : EvsR w ys fs) (hn' : m * 96 ≤ 140737488351232) (hm' : m ≤ d) (hz' : ∀ (i : Nat) (x : EvT) (e : EvP), ys[i]? = some x → fs[i]? = some e → EvZ x e) (y : EvT) (f : EvP) (hx : EvR w y f) (hzx : EvZ y f) :
    Calls Tryz.prog 3 #[.slice A n c, .slice B m d, .agg #[.int .i64 y.n, .int .i64 y.s, .string y.p, .int .i64 y.k, .int .i64 y.m, .slice y.A y.l y.c, .slice y.B y.bl y.bc]] w fun r w' => r = .returned (.bool true) ∧ Chg [] w w' := by

  have hl := hb.len
  subst hl
  have hl' := hb'.len
  subst hl'
  have HL0 : Hid (xs.length ≤ 140737488351232) := Lib.hid (by omega)
  have HL1 : Hid (ys.length ≤ 140737488351232) := Lib.hid (by omega)
  have XL : Hid (∀ x ∈ xs, x.l ≤ 140737488351232) := Lib.hid (fun x hx => by
    obtain ⟨i, hi⟩ := List.getElem?_of_mem hx
    obtain ⟨x2, e, ex, ee, rx⟩ := hr.at_ (show i < xs.length from (List.getElem?_eq_some_iff.1 hi).1)
    rw [hi] at ex
    cases ex
    have a := rx.l
    have b := (hz i x e hi ee).1
    omega)
  have YL : Hid (∀ x ∈ ys, x.l ≤ 140737488351232) := Lib.hid (fun x hx => by
    obtain ⟨i, hi⟩ := List.getElem?_of_mem hx
    obtain ⟨x2, e, ex, ee, rx⟩ := hr'.at_ (show i < ys.length from (List.getElem?_eq_some_iff.1 hi).1)
    rw [hi] at ex
    cases ex
    have a := rx.l
    have b := (hz' i x e hi ee).1
    omega)
  have HA := Lib.hid hb
  have HR := Lib.hid hr
  have HB := Lib.hid hb'
  have HR' := Lib.hid hr'
  have HZ := Lib.hid hzx
  obtain ⟨w1, hw, hc, b0⟩ := news1 w (.cells #[.int .i64 y.n, .int .i64 y.s, .string y.p, .int .i64 y.k, .int .i64 y.m, .slice y.A y.l y.c, .slice y.B y.bl y.bc] 30)
  have W1 := Lib.hid hw
  have B0 := Lib.hid b0
  have HY := Lib.hid (hx.chg hc)
  have C := Lib.hid hc
  clear hb hr hn hm hz hb' hr' hn' hm' hz' hx hzx hw hc b0
  go_enter Tryz.func3, Tryz.ntmps3
  go_upto_region 1 with fail
  rw [← W1.out]
  obtain ⟨g0, hg0⟩ : ∃ g, w.heap.size = g := ⟨_, rfl⟩
  rw [hg0] at B0 ⊢
  clear W1 hg0
  go_wp2_with fail
  have lv := longevs_any w1 A c xs 10 (HA.out.chg C.out (by simp)) HL0.out (by omega) XL.out
  rw [show ((10 : Nat) : Int) = 10 from rfl] at lv
  refine lv.mono ?_
  rintro r w2 ⟨rfl, hc⟩
  clear lv
  replace C := Lib.hid (C.out.trans hc)
  replace B0 := Lib.hid (hc.at_ B0.out (by simp))
  replace HY := Lib.hid (HY.out.chg hc)
  clear hc
  rcases hlong : longE xs 10 with _ | _
  rotate_left
  · go_wp2_with fail
    refine (l9awake_run _).mono ?_
    rintro r w9 ⟨rfl, hc⟩
    replace C := Lib.hid (C.out.trans hc)
    clear hc
    go_wp2
    go_ret
    exact ⟨rfl, C.out⟩
  have sm := smallEvs HR.out hlong
  have SX : Hid (∀ e ∈ es, EvSm e ∧ e.q.length ≤ 100000) := Lib.hid (fun e he => ⟨(sm.1 e he).1, by have := (sm.1 e he).2.1; omega⟩)
  have LX : Hid (xs.length ≤ 10) := Lib.hid sm.2
  clear sm hlong
  go_wp2_with fail
  have lv := longevs_any w2 B d ys 10 (HB.out.chg C.out (by simp)) HL1.out (by omega) YL.out
  rw [show ((10 : Nat) : Int) = 10 from rfl] at lv
  refine lv.mono ?_
  rintro r w3 ⟨rfl, hc⟩
  clear lv
  replace C := Lib.hid (C.out.trans hc)
  replace B0 := Lib.hid (hc.at_ B0.out (by simp))
  replace HY := Lib.hid (HY.out.chg hc)
  clear hc
  rcases hlong : longE ys 10 with _ | _
  rotate_left
  · go_wp2_with fail
    refine (l9awake_run _).mono ?_
    rintro r w9 ⟨rfl, hc⟩
    replace C := Lib.hid (C.out.trans hc)
    clear hc
    go_wp2
    go_ret
    exact ⟨rfl, C.out⟩
  have sm := smallEvs HR'.out hlong
  have SY : Hid (∀ e ∈ fs, EvSm e ∧ e.q.length ≤ 100000) := Lib.hid (fun e he => ⟨(sm.1 e he).1, by have := (sm.1 e he).2.1; omega⟩)
  have LY : Hid (ys.length ≤ 10) := Lib.hid sm.2
  clear sm hlong
  obtain ⟨w4, hw, hc, b1⟩ := news1 w3 (.cells #[.int .i64 y.n, .int .i64 y.s, .string y.p, .int .i64 y.k, .int .i64 y.m, .slice y.A y.l y.c, .slice y.B y.bl y.bc] 30)
  have W4 := Lib.hid hw
  have R4 := Lib.hid (rd_oneEc b1)
  have z0 := cell_of B0.out 0
  have z1 := cell_of B0.out 1
  have z2 := cell_of B0.out 2
  have z3 := cell_of B0.out 3
  have z4 := cell_of B0.out 4
  have z5 := cell_of B0.out 5
  have z6 := cell_of B0.out 6
  simp only [List.getElem?_toArray, List.getElem?_cons_succ, List.getElem?_cons_zero] at z0 z1 z2 z3 z4 z5 z6
  replace C := Lib.hid (C.out.trans hc)
  replace B0 := Lib.hid (hc.at_ B0.out (by simp))
  replace HY := Lib.hid (HY.out.chg hc)
  clear hw hc b1
  go_wp2_with (rw [← W4.out])
  clear z0 z1 z2 z3 z4 z5 z6
  have lv := longevs_any w4 _ 1 [y] 1 R4.out (by simp) (by omega) (by intro u hu; rw [List.mem_singleton.1 hu]; have := HY.out.l; have := HZ.out.1; omega)
  rw [show ([y] : List EvT).length = 1 from rfl, show ((1 : Nat) : Int) = 1 from rfl] at lv
  refine lv.mono ?_
  rintro r w5 ⟨rfl, hc⟩
  clear lv R4 W4
  replace C := Lib.hid (C.out.trans hc)
  replace B0 := Lib.hid (hc.at_ B0.out (by simp))
  replace HY := Lib.hid (HY.out.chg hc)
  clear hc
  rcases hlong : longE [y] 1 with _ | _
  rotate_left
  · go_wp2_with fail
    refine (l9awake_run _).mono ?_
    rintro r w9 ⟨rfl, hc⟩
    replace C := Lib.hid (C.out.trans hc)
    clear hc
    go_wp2
    go_ret
    exact ⟨rfl, C.out⟩
  have sm := (smallEvs (es := [f]) (by simpa using (EvsR.nil w5).snoc HY.out) hlong).1 f (by simp)
  have SF : Hid (EvSm f ∧ f.q.length ≤ 100000) := Lib.hid ⟨sm.1, by have := sm.2.1; omega⟩
  clear sm hlong
  have z0 := cell_of B0.out 0
  have z1 := cell_of B0.out 1
  have z2 := cell_of B0.out 2
  have z3 := cell_of B0.out 3
  have z4 := cell_of B0.out 4
  have z5 := cell_of B0.out 5
  have z6 := cell_of B0.out 6
  simp only [List.getElem?_toArray, List.getElem?_cons_succ, List.getElem?_cons_zero] at z0 z1 z2 z3 z4 z5 z6
  go_upto_region 3 with fail
  clear z0 z1 z2 z3 z4 z5 z6
  have DX : Hid (∀ w', Chg [] w5 w' → (fun w' => w'.cell? ⟨g0, 0, none⟩ = some (.int .i64 y.n) ∧ w'.cell? ⟨g0, 1, none⟩ = some (.int .i64 y.s) ∧ w'.cell? ⟨g0, 2, none⟩ = some (.string y.p) ∧ w'.cell? ⟨g0, 3, none⟩ = some (.int .i64 y.k) ∧ w'.cell? ⟨g0, 4, none⟩ = some (.int .i64 y.m) ∧ w'.cell? ⟨g0, 5, none⟩ = some (.slice y.A y.l y.c) ∧ w'.cell? ⟨g0, 6, none⟩ = some (.slice y.B y.bl y.bc)) w') := Lib.hid (fun w' hc => by
    have b0 := hc.at_ B0.out (by simp)
    exact ⟨cell_of b0 0, cell_of b0 1, cell_of b0 2, cell_of b0 3, cell_of b0 4, cell_of b0 5, cell_of b0 6⟩)
  refine' joinS9 (F := fun (A1 : Option Addr) (c1 : Nat) (zs : List EvT) (A2 : Option Addr) (c2 : Nat) (us : List EvT) (X : EvT) (p : Nat) (w7 : World) => Hid (OwnK evTy w7 A1 c1 zs ∧ EvsR w7 zs es ∧ ApartE w7 A1 zs ∧ zs.length = xs.length) ∧ Hid (OwnK evTy w7 A2 c2 us ∧ EvsR w7 us fs ∧ ApartE w7 A2 us ∧ us.length = ys.length) ∧ Hid (EvR w7 X f ∧ ∀ a : Addr, X.A = some a ∨ X.B = some a → a.block < w7.heap.size) ∧ Hid (w7.heap[p]? = some (.cells #[.int .i64 X.n, .int .i64 X.s, .string X.p, .int .i64 X.k, .int .i64 X.m, .slice X.A X.l X.c, .slice X.B X.bl X.bc] 30)) ∧ Hid (Chg [] w5 w7)) (R := _) (fun JOIN => ?leaf) ?rest
  case leaf =>
    refine wp_region_held_drew (S := fun w' => w'.cell? ⟨g0, 0, none⟩ = some (.int .i64 y.n) ∧ w'.cell? ⟨g0, 1, none⟩ = some (.int .i64 y.s) ∧ w'.cell? ⟨g0, 2, none⟩ = some (.string y.p) ∧ w'.cell? ⟨g0, 3, none⟩ = some (.int .i64 y.k) ∧ w'.cell? ⟨g0, 4, none⟩ = some (.int .i64 y.m) ∧ w'.cell? ⟨g0, 5, none⟩ = some (.slice y.A y.l y.c) ∧ w'.cell? ⟨g0, 6, none⟩ = some (.slice y.B y.bl y.bc)) (by kernel_rfl) (DX.out _ (Chg.refl [] w5).drew) (fun hHeld => ?_)
    have CC : Hid (Chg [] w5 w5.drew) := Lib.hid (Chg.refl [] w5).drew
    clear hHeld
    obtain ⟨wc, hwc⟩ : ∃ wc, w5.drew = wc := ⟨_, rfl⟩
    rw [hwc] at CC ⊢
    clear hwc
    refine sy 0 31 rfl rfl ?_ (hS := (DX.out _ CC.out))
    try simp only [Act.put, sA, s0, s1]
    refine sy 2 33 rfl rfl ?_ (hS := (DX.out _ CC.out))
    try simp only [Act.put, sA, s0, s1]
    refine sy 4 35 rfl rfl ?_ (hS := (DX.out _ CC.out)) (hy := by (intro w hSw; (try dsimp only at hSw); obtain ⟨q0, q1, q2, q3, q4, q5, q6⟩ := hSw; go_simp; try with_reducible rfl))
    try simp only [Act.put, sA, s0, s1]
    refine wpAnyH_ready (rs := [1, 6]) (by kernel_rfl) (by simp) ?_
    refine AllReadyH.cons rfl (fun K hK => ?_) (AllReadyH.cons rfl (fun K hK => ?_) AllReadyH.nil)
    · skip
      replace hK := Lib.hid hK
      go_simp
      refine (copyevs_new wc A c xs es (HA.out.chg (C.out.trans CC.out) (by simp)) (HR.out.chg (C.out.trans CC.out)) (by have := LX.out; omega) (fun e he => ⟨(SX.out e he).1.2.1, (SX.out e he).2⟩)).mono ?_
      rintro r wc ⟨A1, c1, zs, rfl, hyl, ho, hy, hap, hnw, hnx, hc⟩
      have RI := Lib.hid (And.intro ho (And.intro hy (And.intro hap hyl)))
      replace CC := Lib.hid (CC.out.trans hc)
      clear hyl ho hy hap hnw hnx hc
      refine hK.out _ _ (DX.out _ CC.out) (fun hHeld => ?_)
      clear hK K
      try simp only [Act.put, sA, s0, s1]
      refine wpAnyH_ready (rs := [3, 6]) (by kernel_rfl) (by simp) ?_
      refine AllReadyH.cons rfl (fun K hK => ?_) (AllReadyH.cons rfl (fun K hK => ?_) AllReadyH.nil)
      · skip
        replace hK := Lib.hid hK
        go_simp
        refine (copyevs_new wc B d ys fs (HB.out.chg (C.out.trans CC.out) (by simp)) (HR'.out.chg (C.out.trans CC.out)) (by have := LY.out; omega) (fun e he => ⟨(SY.out e he).1.2.1, (SY.out e he).2⟩)).mono ?_
        rintro r wc ⟨A2, c2, us, rfl, hyl, ho, hy, hap, hnw, hnx, hc⟩
        have RJ := Lib.hid (And.intro ho (And.intro hy (And.intro hap hyl)))
        replace RI := Lib.hid (And.intro (RI.out.1.chg hc (by simp)) (And.intro (RI.out.2.1.chg hc) (And.intro (RI.out.2.2.1.more hc.size) RI.out.2.2.2)))
        replace CC := Lib.hid (CC.out.trans hc)
        clear hyl ho hy hap hnw hnx hc
        refine hK.out _ _ (DX.out _ CC.out) (fun hHeld => ?_)
        clear hK K
        try simp only [Act.put, sA, s0, s1]
        refine wpAnyH_ready (rs := [5, 6]) (by kernel_rfl) (by simp) ?_
        refine AllReadyH.cons rfl (fun K hK => ?_) (AllReadyH.cons rfl (fun K hK => ?_) AllReadyH.nil)
        · skip
          replace hK := Lib.hid hK
          go_simp
          refine (copyev_x wc y f (HY.out.chg CC.out) ⟨SF.out.1.2.1, SF.out.2⟩).mono ?_
          rintro r wc ⟨X, rfl, hX, hA, hB, hnA, hnB, hne, hc⟩
          have RX := Lib.hid (And.intro hX (fun (a : Addr) (ha : X.A = some a ∨ X.B = some a) => ha.elim (hA.lt8_ a) (hB.lt a)))
          replace RI := Lib.hid (And.intro (RI.out.1.chg hc (by simp)) (And.intro (RI.out.2.1.chg hc) (And.intro (RI.out.2.2.1.more hc.size) RI.out.2.2.2)))
          replace RJ := Lib.hid (And.intro (RJ.out.1.chg hc (by simp)) (And.intro (RJ.out.2.1.chg hc) (And.intro (RJ.out.2.2.1.more hc.size) RJ.out.2.2.2)))
          replace CC := Lib.hid (CC.out.trans hc)
          clear hX hA hB hnA hnB hne hc
          refine hK.out _ _ (DX.out _ CC.out) (fun hHeld => ?_)
          clear hK K
          try simp only [Act.put, sA, s0, s1]
          refine wpAnyH_ready (rs := [6]) (by kernel_rfl) (by simp) ?_
          refine AllReadyH.cons rfl (fun K hK => ?_) AllReadyH.nil
          replace hK := Lib.hid hK
          go_simp
          obtain ⟨p, hp⟩ : ∃ n, n = wc.heap.size := ⟨_, rfl⟩
          have XP : Hid (∀ a : Addr, X.A = some a ∨ X.B = some a → a.block ≠ p) := Lib.hid (fun a ha => by have := RX.out.2 a ha; omega)
          have GP : Hid (w5.heap.size ≤ p) := Lib.hid (by have := CC.out.size; omega)
          have NI : Hid ((∀ a, A1 = some a → a.block ≠ p)) := Lib.hid (fun a ha => by have := RI.out.1.lt a ha; omega)
          have MI : Hid (∀ x ∈ zs, ∀ a, (x.A = some a ∨ x.B = some a) → a.block ≠ p) := Lib.hid (fun x hx a ha => by have := ha.elim (fun q => ((RI.out.2.2.1 x hx).1 a q).1) (fun q => ((RI.out.2.2.1 x hx).2.1 a q).1); omega)
          have NJ : Hid ((∀ a, A2 = some a → a.block ≠ p)) := Lib.hid (fun a ha => by have := RJ.out.1.lt a ha; omega)
          have MJ : Hid (∀ x ∈ us, ∀ a, (x.A = some a ∨ x.B = some a) → a.block ≠ p) := Lib.hid (fun x hx a ha => by have := ha.elim (fun q => ((RJ.out.2.2.1 x hx).1 a q).1) (fun q => ((RJ.out.2.2.1 x hx).2.1 a q).1); omega)
          obtain ⟨wc, hw, cn, bn⟩ := news1 wc (.cells #[.int .i64 0, .int .i64 0, .string ⟨#[]⟩, .int .i64 0, .int .i64 0, .slice none 0 0, .slice none 0 0] 30)
          rw [← hw, ← hp]
          rw [← hp] at bn
          replace RI := Lib.hid (And.intro (RI.out.1.chg cn (by simp)) (And.intro (RI.out.2.1.chg cn) (And.intro (RI.out.2.2.1.more cn.size) RI.out.2.2.2)))
          replace RJ := Lib.hid (And.intro (RJ.out.1.chg cn (by simp)) (And.intro (RJ.out.2.1.chg cn) (And.intro (RJ.out.2.2.1.more cn.size) RJ.out.2.2.2)))
          replace RX := Lib.hid (And.intro (RX.out.1.chg cn) (fun a ha => Nat.lt_of_lt_of_le (RX.out.2 a ha) cn.size))
          have BP := Lib.hid bn
          have LP : Hid (p < wc.heap.size) := Lib.hid (lt_of_heap bn)
          replace CC := Lib.hid (CC.out.trans cn)
          clear hw hp cn bn
          refine hK.out _ _ (DX.out _ CC.out) (fun hHeld => ?_)
          clear hK K
          try simp only [Act.put, sA, s0, s1]
          refine sy 7 7 rfl rfl ?_ (hS := (DX.out _ CC.out))
          try simp only [Act.put, sA, s0, s1]
          refine sy 8 8 rfl rfl ?_ (hS := (DX.out _ CC.out))
          try simp only [Act.put, sA, s0, s1]
          refine wpAnyH_ready (rs := [9]) (by kernel_rfl) (by simp) ?_
          refine AllReadyH.cons rfl (fun K hK => ?_) AllReadyH.nil
          replace hK := Lib.hid hK
          have f0 := free_of BP.out 0
          have f1 := free_of BP.out 1
          have f2 := free_of BP.out 2
          have f3 := free_of BP.out 3
          have f4 := free_of BP.out 4
          have f5 := free_of BP.out 5
          have f6 := free_of BP.out 6
          have v0 := cell_of BP.out 0
          have v1 := cell_of BP.out 1
          have v2 := cell_of BP.out 2
          have v3 := cell_of BP.out 3
          have v4 := cell_of BP.out 4
          have v5 := cell_of BP.out 5
          have v6 := cell_of BP.out 6
          simp only [List.getElem?_toArray, List.getElem?_cons_succ, List.getElem?_cons_zero] at v0 v1 v2 v3 v4 v5 v6
          go_simp
          clear f0 v0 f1 v1 f2 v2 f3 v3 f4 v4 f5 v5 f6 v6
          obtain ⟨bk, ok, ck⟩ := setC7 (.int .i64 X.n) (.int .i64 X.s) (.string X.p) (.int .i64 X.k) (.int .i64 X.m) (.slice X.A X.l X.c) (.slice X.B X.bl X.bc) BP.out
          replace BP := Lib.hid bk
          replace RI := Lib.hid (And.intro (RI.out.1.chg ck (fun a ha => by simp; exact NI.out a ha)) (And.intro (RI.out.2.1.chgS ck (fun x hx => ⟨fun a ha => by simp; exact MI.out x hx a (.inl ha), fun a ha => by simp; exact MI.out x hx a (.inr ha)⟩)) (And.intro (RI.out.2.2.1.more ck.size) RI.out.2.2.2)))
          replace RJ := Lib.hid (And.intro (RJ.out.1.chg ck (fun a ha => by simp; exact NJ.out a ha)) (And.intro (RJ.out.2.1.chgS ck (fun x hx => ⟨fun a ha => by simp; exact MJ.out x hx a (.inl ha), fun a ha => by simp; exact MJ.out x hx a (.inr ha)⟩)) (And.intro (RJ.out.2.2.1.more ck.size) RJ.out.2.2.2)))
          replace RX := Lib.hid (And.intro (RX.out.1.chgS ck (fun a ha => by simp; exact XP.out a (.inl ha)) (fun a ha => by simp; exact XP.out a (.inr ha))) (fun a ha => Nat.lt_of_lt_of_le (RX.out.2 a ha) ck.size))
          replace CC := Lib.hid (CC.out.trans' ck (fun i hi => .inr (by have := GP.out; simp at hi; omega)))
          clear bk ok ck
          obtain ⟨wc, hwc⟩ : ∃ w9 : World, w9 = (((((((wc.setCell ⟨p, 0, none⟩ (.int .i64 X.n)).setCell ⟨p, 1, none⟩ (.int .i64 X.s)).setCell ⟨p, 2, none⟩ (.string X.p)).setCell ⟨p, 3, none⟩ (.int .i64 X.k)).setCell ⟨p, 4, none⟩ (.int .i64 X.m)).setCell ⟨p, 5, none⟩ (.slice X.A X.l X.c)).setCell ⟨p, 6, none⟩ (.slice X.B X.bl X.bc)) := ⟨_, rfl⟩
          rw [← hwc] at BP RI RJ RX CC ⊢
          clear hwc
          refine hK.out _ _ (DX.out _ CC.out) (fun hHeld => ?_)
          clear hK K
          try simp only [Act.put, sA, s0, s1]
          refine wpAnyH_done (by kernel_rfl) ?_ _
          clear hHeld
          exact JOIN A1 c1 zs A2 c2 us X p _ ⟨RI, RJ, RX, BP, CC⟩
        · skip
          replace hK := Lib.hid hK
          go_simp
          obtain ⟨p, hp⟩ : ∃ n, n = wc.heap.size := ⟨_, rfl⟩
          have GP : Hid (w5.heap.size ≤ p) := Lib.hid (by have := CC.out.size; omega)
          have NI : Hid ((∀ a, A1 = some a → a.block ≠ p)) := Lib.hid (fun a ha => by have := RI.out.1.lt a ha; omega)
          have MI : Hid (∀ x ∈ zs, ∀ a, (x.A = some a ∨ x.B = some a) → a.block ≠ p) := Lib.hid (fun x hx a ha => by have := ha.elim (fun q => ((RI.out.2.2.1 x hx).1 a q).1) (fun q => ((RI.out.2.2.1 x hx).2.1 a q).1); omega)
          have NJ : Hid ((∀ a, A2 = some a → a.block ≠ p)) := Lib.hid (fun a ha => by have := RJ.out.1.lt a ha; omega)
          have MJ : Hid (∀ x ∈ us, ∀ a, (x.A = some a ∨ x.B = some a) → a.block ≠ p) := Lib.hid (fun x hx a ha => by have := ha.elim (fun q => ((RJ.out.2.2.1 x hx).1 a q).1) (fun q => ((RJ.out.2.2.1 x hx).2.1 a q).1); omega)
          obtain ⟨wc, hw, cn, bn⟩ := news1 wc (.cells #[.int .i64 0, .int .i64 0, .string ⟨#[]⟩, .int .i64 0, .int .i64 0, .slice none 0 0, .slice none 0 0] 30)
          rw [← hw, ← hp]
          rw [← hp] at bn
          replace RI := Lib.hid (And.intro (RI.out.1.chg cn (by simp)) (And.intro (RI.out.2.1.chg cn) (And.intro (RI.out.2.2.1.more cn.size) RI.out.2.2.2)))
          replace RJ := Lib.hid (And.intro (RJ.out.1.chg cn (by simp)) (And.intro (RJ.out.2.1.chg cn) (And.intro (RJ.out.2.2.1.more cn.size) RJ.out.2.2.2)))
          have BP := Lib.hid bn
          have LP : Hid (p < wc.heap.size) := Lib.hid (lt_of_heap bn)
          replace CC := Lib.hid (CC.out.trans cn)
          clear hw hp cn bn
          refine hK.out _ _ (DX.out _ CC.out) (fun hHeld => ?_)
          clear hK K
          try simp only [Act.put, sA, s0, s1]
          refine wpAnyH_ready (rs := [5]) (by kernel_rfl) (by simp) ?_
          refine AllReadyH.cons rfl (fun K hK => ?_) AllReadyH.nil
          replace hK := Lib.hid hK
          go_simp
          refine (copyev_x wc y f (HY.out.chg CC.out) ⟨SF.out.1.2.1, SF.out.2⟩).mono ?_
          rintro r wc ⟨X, rfl, hX, hA, hB, hnA, hnB, hne, hc⟩
          have RX := Lib.hid (And.intro hX (fun (a : Addr) (ha : X.A = some a ∨ X.B = some a) => ha.elim (hA.lt8_ a) (hB.lt a)))
          have XP : Hid (∀ a : Addr, X.A = some a ∨ X.B = some a → a.block ≠ p) := Lib.hid (fun a ha => by have h1 := ha.elim (hnA a) (hnB a); have h2 := LP.out; omega)
          replace LP := Lib.hid (Nat.lt_of_lt_of_le LP.out hc.size)
          replace RI := Lib.hid (And.intro (RI.out.1.chg hc (by simp)) (And.intro (RI.out.2.1.chg hc) (And.intro (RI.out.2.2.1.more hc.size) RI.out.2.2.2)))
          replace RJ := Lib.hid (And.intro (RJ.out.1.chg hc (by simp)) (And.intro (RJ.out.2.1.chg hc) (And.intro (RJ.out.2.2.1.more hc.size) RJ.out.2.2.2)))
          replace BP := Lib.hid (hc.at_ BP.out (by simp))
          replace CC := Lib.hid (CC.out.trans hc)
          clear hX hA hB hnA hnB hne hc
          refine hK.out _ _ (DX.out _ CC.out) (fun hHeld => ?_)
          clear hK K
          try simp only [Act.put, sA, s0, s1]
          refine sy 7 7 rfl rfl ?_ (hS := (DX.out _ CC.out))
          try simp only [Act.put, sA, s0, s1]
          refine sy 8 8 rfl rfl ?_ (hS := (DX.out _ CC.out))
          try simp only [Act.put, sA, s0, s1]
          refine wpAnyH_ready (rs := [9]) (by kernel_rfl) (by simp) ?_
          refine AllReadyH.cons rfl (fun K hK => ?_) AllReadyH.nil
          replace hK := Lib.hid hK
          have f0 := free_of BP.out 0
          have f1 := free_of BP.out 1
          have f2 := free_of BP.out 2
          have f3 := free_of BP.out 3
          have f4 := free_of BP.out 4
          have f5 := free_of BP.out 5
          have f6 := free_of BP.out 6
          have v0 := cell_of BP.out 0
          have v1 := cell_of BP.out 1
          have v2 := cell_of BP.out 2
          have v3 := cell_of BP.out 3
          have v4 := cell_of BP.out 4
          have v5 := cell_of BP.out 5
          have v6 := cell_of BP.out 6
          simp only [List.getElem?_toArray, List.getElem?_cons_succ, List.getElem?_cons_zero] at v0 v1 v2 v3 v4 v5 v6
          go_simp
          clear f0 v0 f1 v1 f2 v2 f3 v3 f4 v4 f5 v5 f6 v6
          obtain ⟨bk, ok, ck⟩ := setC7 (.int .i64 X.n) (.int .i64 X.s) (.string X.p) (.int .i64 X.k) (.int .i64 X.m) (.slice X.A X.l X.c) (.slice X.B X.bl X.bc) BP.out
          replace BP := Lib.hid bk
          replace RI := Lib.hid (And.intro (RI.out.1.chg ck (fun a ha => by simp; exact NI.out a ha)) (And.intro (RI.out.2.1.chgS ck (fun x hx => ⟨fun a ha => by simp; exact MI.out x hx a (.inl ha), fun a ha => by simp; exact MI.out x hx a (.inr ha)⟩)) (And.intro (RI.out.2.2.1.more ck.size) RI.out.2.2.2)))
          replace RJ := Lib.hid (And.intro (RJ.out.1.chg ck (fun a ha => by simp; exact NJ.out a ha)) (And.intro (RJ.out.2.1.chgS ck (fun x hx => ⟨fun a ha => by simp; exact MJ.out x hx a (.inl ha), fun a ha => by simp; exact MJ.out x hx a (.inr ha)⟩)) (And.intro (RJ.out.2.2.1.more ck.size) RJ.out.2.2.2)))
          replace RX := Lib.hid (And.intro (RX.out.1.chgS ck (fun a ha => by simp; exact XP.out a (.inl ha)) (fun a ha => by simp; exact XP.out a (.inr ha))) (fun a ha => Nat.lt_of_lt_of_le (RX.out.2 a ha) ck.size))
          replace CC := Lib.hid (CC.out.trans' ck (fun i hi => .inr (by have := GP.out; simp at hi; omega)))
          clear bk ok ck
          obtain ⟨wc, hwc⟩ : ∃ w9 : World, w9 = (((((((wc.setCell ⟨p, 0, none⟩ (.int .i64 X.n)).setCell ⟨p, 1, none⟩ (.int .i64 X.s)).setCell ⟨p, 2, none⟩ (.string X.p)).setCell ⟨p, 3, none⟩ (.int .i64 X.k)).setCell ⟨p, 4, none⟩ (.int .i64 X.m)).setCell ⟨p, 5, none⟩ (.slice X.A X.l X.c)).setCell ⟨p, 6, none⟩ (.slice X.B X.bl X.bc)) := ⟨_, rfl⟩
          rw [← hwc] at BP RI RJ RX CC ⊢
          clear hwc
          refine hK.out _ _ (DX.out _ CC.out) (fun hHeld => ?_)
          clear hK K
          try simp only [Act.put, sA, s0, s1]
          refine wpAnyH_done (by kernel_rfl) ?_ _
          clear hHeld
          exact JOIN A1 c1 zs A2 c2 us X p _ ⟨RI, RJ, RX, BP, CC⟩
      · skip
        replace hK := Lib.hid hK
        go_simp
        obtain ⟨p, hp⟩ : ∃ n, n = wc.heap.size := ⟨_, rfl⟩
        have GP : Hid (w5.heap.size ≤ p) := Lib.hid (by have := CC.out.size; omega)
        have NI : Hid ((∀ a, A1 = some a → a.block ≠ p)) := Lib.hid (fun a ha => by have := RI.out.1.lt a ha; omega)
        have MI : Hid (∀ x ∈ zs, ∀ a, (x.A = some a ∨ x.B = some a) → a.block ≠ p) := Lib.hid (fun x hx a ha => by have := ha.elim (fun q => ((RI.out.2.2.1 x hx).1 a q).1) (fun q => ((RI.out.2.2.1 x hx).2.1 a q).1); omega)
        obtain ⟨wc, hw, cn, bn⟩ := news1 wc (.cells #[.int .i64 0, .int .i64 0, .string ⟨#[]⟩, .int .i64 0, .int .i64 0, .slice none 0 0, .slice none 0 0] 30)
        rw [← hw, ← hp]
        rw [← hp] at bn
        replace RI := Lib.hid (And.intro (RI.out.1.chg cn (by simp)) (And.intro (RI.out.2.1.chg cn) (And.intro (RI.out.2.2.1.more cn.size) RI.out.2.2.2)))
        have BP := Lib.hid bn
        have LP : Hid (p < wc.heap.size) := Lib.hid (lt_of_heap bn)
        replace CC := Lib.hid (CC.out.trans cn)
        clear hw hp cn bn
        refine hK.out _ _ (DX.out _ CC.out) (fun hHeld => ?_)
        clear hK K
        try simp only [Act.put, sA, s0, s1]
        refine wpAnyH_ready (rs := [3]) (by kernel_rfl) (by simp) ?_
        refine AllReadyH.cons rfl (fun K hK => ?_) AllReadyH.nil
        replace hK := Lib.hid hK
        go_simp
        refine (copyevs_new wc B d ys fs (HB.out.chg (C.out.trans CC.out) (by simp)) (HR'.out.chg (C.out.trans CC.out)) (by have := LY.out; omega) (fun e he => ⟨(SY.out e he).1.2.1, (SY.out e he).2⟩)).mono ?_
        rintro r wc ⟨A2, c2, us, rfl, hyl, ho, hy, hap, hnw, hnx, hc⟩
        have RJ := Lib.hid (And.intro ho (And.intro hy (And.intro hap hyl)))
        have NJ : Hid ((∀ a, A2 = some a → a.block ≠ p)) := Lib.hid (fun a ha => by have := hnw a ha; have := LP.out; omega)
        have MJ : Hid (∀ x ∈ us, ∀ a, (x.A = some a ∨ x.B = some a) → a.block ≠ p) := Lib.hid (fun x hx a ha => by have := hnx x hx a ha; have := LP.out; omega)
        replace RI := Lib.hid (And.intro (RI.out.1.chg hc (by simp)) (And.intro (RI.out.2.1.chg hc) (And.intro (RI.out.2.2.1.more hc.size) RI.out.2.2.2)))
        replace BP := Lib.hid (hc.at_ BP.out (by simp))
        replace LP := Lib.hid (Nat.lt_of_lt_of_le LP.out hc.size)
        replace CC := Lib.hid (CC.out.trans hc)
        clear hyl ho hy hap hnw hnx hc
        refine hK.out _ _ (DX.out _ CC.out) (fun hHeld => ?_)
        clear hK K
        try simp only [Act.put, sA, s0, s1]
        refine wpAnyH_ready (rs := [5]) (by kernel_rfl) (by simp) ?_
        refine AllReadyH.cons rfl (fun K hK => ?_) AllReadyH.nil
        replace hK := Lib.hid hK
        go_simp
        refine (copyev_x wc y f (HY.out.chg CC.out) ⟨SF.out.1.2.1, SF.out.2⟩).mono ?_
        rintro r wc ⟨X, rfl, hX, hA, hB, hnA, hnB, hne, hc⟩
        have RX := Lib.hid (And.intro hX (fun (a : Addr) (ha : X.A = some a ∨ X.B = some a) => ha.elim (hA.lt8_ a) (hB.lt a)))
        have XP : Hid (∀ a : Addr, X.A = some a ∨ X.B = some a → a.block ≠ p) := Lib.hid (fun a ha => by have h1 := ha.elim (hnA a) (hnB a); have h2 := LP.out; omega)
        replace LP := Lib.hid (Nat.lt_of_lt_of_le LP.out hc.size)
        replace RI := Lib.hid (And.intro (RI.out.1.chg hc (by simp)) (And.intro (RI.out.2.1.chg hc) (And.intro (RI.out.2.2.1.more hc.size) RI.out.2.2.2)))
        replace RJ := Lib.hid (And.intro (RJ.out.1.chg hc (by simp)) (And.intro (RJ.out.2.1.chg hc) (And.intro (RJ.out.2.2.1.more hc.size) RJ.out.2.2.2)))
        replace BP := Lib.hid (hc.at_ BP.out (by simp))
        replace CC := Lib.hid (CC.out.trans hc)
        clear hX hA hB hnA hnB hne hc
        refine hK.out _ _ (DX.out _ CC.out) (fun hHeld => ?_)
        clear hK K
        try simp only [Act.put, sA, s0, s1]
        refine sy 7 7 rfl rfl ?_ (hS := (DX.out _ CC.out))
        try simp only [Act.put, sA, s0, s1]
        refine sy 8 8 rfl rfl ?_ (hS := (DX.out _ CC.out))
        try simp only [Act.put, sA, s0, s1]
        refine wpAnyH_ready (rs := [9]) (by kernel_rfl) (by simp) ?_
        refine AllReadyH.cons rfl (fun K hK => ?_) AllReadyH.nil
        replace hK := Lib.hid hK
        have f0 := free_of BP.out 0
        have f1 := free_of BP.out 1
        have f2 := free_of BP.out 2
        have f3 := free_of BP.out 3
        have f4 := free_of BP.out 4
        have f5 := free_of BP.out 5
        have f6 := free_of BP.out 6
        have v0 := cell_of BP.out 0
        have v1 := cell_of BP.out 1
        have v2 := cell_of BP.out 2
        have v3 := cell_of BP.out 3
        have v4 := cell_of BP.out 4
        have v5 := cell_of BP.out 5
        have v6 := cell_of BP.out 6
        simp only [List.getElem?_toArray, List.getElem?_cons_succ, List.getElem?_cons_zero] at v0 v1 v2 v3 v4 v5 v6
        go_simp
        clear f0 v0 f1 v1 f2 v2 f3 v3 f4 v4 f5 v5 f6 v6
        obtain ⟨bk, ok, ck⟩ := setC7 (.int .i64 X.n) (.int .i64 X.s) (.string X.p) (.int .i64 X.k) (.int .i64 X.m) (.slice X.A X.l X.c) (.slice X.B X.bl X.bc) BP.out
        replace BP := Lib.hid bk
        replace RI := Lib.hid (And.intro (RI.out.1.chg ck (fun a ha => by simp; exact NI.out a ha)) (And.intro (RI.out.2.1.chgS ck (fun x hx => ⟨fun a ha => by simp; exact MI.out x hx a (.inl ha), fun a ha => by simp; exact MI.out x hx a (.inr ha)⟩)) (And.intro (RI.out.2.2.1.more ck.size) RI.out.2.2.2)))
        replace RJ := Lib.hid (And.intro (RJ.out.1.chg ck (fun a ha => by simp; exact NJ.out a ha)) (And.intro (RJ.out.2.1.chgS ck (fun x hx => ⟨fun a ha => by simp; exact MJ.out x hx a (.inl ha), fun a ha => by simp; exact MJ.out x hx a (.inr ha)⟩)) (And.intro (RJ.out.2.2.1.more ck.size) RJ.out.2.2.2)))
        replace RX := Lib.hid (And.intro (RX.out.1.chgS ck (fun a ha => by simp; exact XP.out a (.inl ha)) (fun a ha => by simp; exact XP.out a (.inr ha))) (fun a ha => Nat.lt_of_lt_of_le (RX.out.2 a ha) ck.size))
        replace CC := Lib.hid (CC.out.trans' ck (fun i hi => .inr (by have := GP.out; simp at hi; omega)))
        clear bk ok ck
        obtain ⟨wc, hwc⟩ : ∃ w9 : World, w9 = (((((((wc.setCell ⟨p, 0, none⟩ (.int .i64 X.n)).setCell ⟨p, 1, none⟩ (.int .i64 X.s)).setCell ⟨p, 2, none⟩ (.string X.p)).setCell ⟨p, 3, none⟩ (.int .i64 X.k)).setCell ⟨p, 4, none⟩ (.int .i64 X.m)).setCell ⟨p, 5, none⟩ (.slice X.A X.l X.c)).setCell ⟨p, 6, none⟩ (.slice X.B X.bl X.bc)) := ⟨_, rfl⟩
        rw [← hwc] at BP RI RJ RX CC ⊢
        clear hwc
        refine hK.out _ _ (DX.out _ CC.out) (fun hHeld => ?_)
        clear hK K
        try simp only [Act.put, sA, s0, s1]
        refine wpAnyH_done (by kernel_rfl) ?_ _
        clear hHeld
        exact JOIN A1 c1 zs A2 c2 us X p _ ⟨RI, RJ, RX, BP, CC⟩
    · skip
      replace hK := Lib.hid hK
      go_simp
      obtain ⟨p, hp⟩ : ∃ n, n = wc.heap.size := ⟨_, rfl⟩
      have GP : Hid (w5.heap.size ≤ p) := Lib.hid (by have := CC.out.size; omega)
      obtain ⟨wc, hw, cn, bn⟩ := news1 wc (.cells #[.int .i64 0, .int .i64 0, .string ⟨#[]⟩, .int .i64 0, .int .i64 0, .slice none 0 0, .slice none 0 0] 30)
      rw [← hw, ← hp]
      rw [← hp] at bn
      have BP := Lib.hid bn
      have LP : Hid (p < wc.heap.size) := Lib.hid (lt_of_heap bn)
      replace CC := Lib.hid (CC.out.trans cn)
      clear hw hp cn bn
      refine hK.out _ _ (DX.out _ CC.out) (fun hHeld => ?_)
      clear hK K
      try simp only [Act.put, sA, s0, s1]
      refine wpAnyH_ready (rs := [1]) (by kernel_rfl) (by simp) ?_
      refine AllReadyH.cons rfl (fun K hK => ?_) AllReadyH.nil
      replace hK := Lib.hid hK
      go_simp
      refine (copyevs_new wc A c xs es (HA.out.chg (C.out.trans CC.out) (by simp)) (HR.out.chg (C.out.trans CC.out)) (by have := LX.out; omega) (fun e he => ⟨(SX.out e he).1.2.1, (SX.out e he).2⟩)).mono ?_
      rintro r wc ⟨A1, c1, zs, rfl, hyl, ho, hy, hap, hnw, hnx, hc⟩
      have RI := Lib.hid (And.intro ho (And.intro hy (And.intro hap hyl)))
      have NI : Hid ((∀ a, A1 = some a → a.block ≠ p)) := Lib.hid (fun a ha => by have := hnw a ha; have := LP.out; omega)
      have MI : Hid (∀ x ∈ zs, ∀ a, (x.A = some a ∨ x.B = some a) → a.block ≠ p) := Lib.hid (fun x hx a ha => by have := hnx x hx a ha; have := LP.out; omega)
      replace BP := Lib.hid (hc.at_ BP.out (by simp))
      replace LP := Lib.hid (Nat.lt_of_lt_of_le LP.out hc.size)
      replace CC := Lib.hid (CC.out.trans hc)
      clear hyl ho hy hap hnw hnx hc
      refine hK.out _ _ (DX.out _ CC.out) (fun hHeld => ?_)
      clear hK K
      try simp only [Act.put, sA, s0, s1]
      refine wpAnyH_ready (rs := [3]) (by kernel_rfl) (by simp) ?_
      refine AllReadyH.cons rfl (fun K hK => ?_) AllReadyH.nil
      replace hK := Lib.hid hK
      go_simp
      refine (copyevs_new wc B d ys fs (HB.out.chg (C.out.trans CC.out) (by simp)) (HR'.out.chg (C.out.trans CC.out)) (by have := LY.out; omega) (fun e he => ⟨(SY.out e he).1.2.1, (SY.out e he).2⟩)).mono ?_
      rintro r wc ⟨A2, c2, us, rfl, hyl, ho, hy, hap, hnw, hnx, hc⟩
      have RJ := Lib.hid (And.intro ho (And.intro hy (And.intro hap hyl)))
      have NJ : Hid ((∀ a, A2 = some a → a.block ≠ p)) := Lib.hid (fun a ha => by have := hnw a ha; have := LP.out; omega)
      have MJ : Hid (∀ x ∈ us, ∀ a, (x.A = some a ∨ x.B = some a) → a.block ≠ p) := Lib.hid (fun x hx a ha => by have := hnx x hx a ha; have := LP.out; omega)
      replace RI := Lib.hid (And.intro (RI.out.1.chg hc (by simp)) (And.intro (RI.out.2.1.chg hc) (And.intro (RI.out.2.2.1.more hc.size) RI.out.2.2.2)))
      replace BP := Lib.hid (hc.at_ BP.out (by simp))
      replace LP := Lib.hid (Nat.lt_of_lt_of_le LP.out hc.size)
      replace CC := Lib.hid (CC.out.trans hc)
      clear hyl ho hy hap hnw hnx hc
      refine hK.out _ _ (DX.out _ CC.out) (fun hHeld => ?_)
      clear hK K
      try simp only [Act.put, sA, s0, s1]
      refine wpAnyH_ready (rs := [5]) (by kernel_rfl) (by simp) ?_
      refine AllReadyH.cons rfl (fun K hK => ?_) AllReadyH.nil
      replace hK := Lib.hid hK
      go_simp
      refine (copyev_x wc y f (HY.out.chg CC.out) ⟨SF.out.1.2.1, SF.out.2⟩).mono ?_
      rintro r wc ⟨X, rfl, hX, hA, hB, hnA, hnB, hne, hc⟩
      have RX := Lib.hid (And.intro hX (fun (a : Addr) (ha : X.A = some a ∨ X.B = some a) => ha.elim (hA.lt8_ a) (hB.lt a)))
      have XP : Hid (∀ a : Addr, X.A = some a ∨ X.B = some a → a.block ≠ p) := Lib.hid (fun a ha => by have h1 := ha.elim (hnA a) (hnB a); have h2 := LP.out; omega)
      replace LP := Lib.hid (Nat.lt_of_lt_of_le LP.out hc.size)
      replace RI := Lib.hid (And.intro (RI.out.1.chg hc (by simp)) (And.intro (RI.out.2.1.chg hc) (And.intro (RI.out.2.2.1.more hc.size) RI.out.2.2.2)))
      replace RJ := Lib.hid (And.intro (RJ.out.1.chg hc (by simp)) (And.intro (RJ.out.2.1.chg hc) (And.intro (RJ.out.2.2.1.more hc.size) RJ.out.2.2.2)))
      replace BP := Lib.hid (hc.at_ BP.out (by simp))
      replace CC := Lib.hid (CC.out.trans hc)
      clear hX hA hB hnA hnB hne hc
      refine hK.out _ _ (DX.out _ CC.out) (fun hHeld => ?_)
      clear hK K
      try simp only [Act.put, sA, s0, s1]
      refine sy 7 7 rfl rfl ?_ (hS := (DX.out _ CC.out))
      try simp only [Act.put, sA, s0, s1]
      refine sy 8 8 rfl rfl ?_ (hS := (DX.out _ CC.out))
      try simp only [Act.put, sA, s0, s1]
      refine wpAnyH_ready (rs := [9]) (by kernel_rfl) (by simp) ?_
      refine AllReadyH.cons rfl (fun K hK => ?_) AllReadyH.nil
      replace hK := Lib.hid hK
      have f0 := free_of BP.out 0
      have f1 := free_of BP.out 1
      have f2 := free_of BP.out 2
      have f3 := free_of BP.out 3
      have f4 := free_of BP.out 4
      have f5 := free_of BP.out 5
      have f6 := free_of BP.out 6
      have v0 := cell_of BP.out 0
      have v1 := cell_of BP.out 1
      have v2 := cell_of BP.out 2
      have v3 := cell_of BP.out 3
      have v4 := cell_of BP.out 4
      have v5 := cell_of BP.out 5
      have v6 := cell_of BP.out 6
      simp only [List.getElem?_toArray, List.getElem?_cons_succ, List.getElem?_cons_zero] at v0 v1 v2 v3 v4 v5 v6
      go_simp
      clear f0 v0 f1 v1 f2 v2 f3 v3 f4 v4 f5 v5 f6 v6
      obtain ⟨bk, ok, ck⟩ := setC7 (.int .i64 X.n) (.int .i64 X.s) (.string X.p) (.int .i64 X.k) (.int .i64 X.m) (.slice X.A X.l X.c) (.slice X.B X.bl X.bc) BP.out
      replace BP := Lib.hid bk
      replace RI := Lib.hid (And.intro (RI.out.1.chg ck (fun a ha => by simp; exact NI.out a ha)) (And.intro (RI.out.2.1.chgS ck (fun x hx => ⟨fun a ha => by simp; exact MI.out x hx a (.inl ha), fun a ha => by simp; exact MI.out x hx a (.inr ha)⟩)) (And.intro (RI.out.2.2.1.more ck.size) RI.out.2.2.2)))
      replace RJ := Lib.hid (And.intro (RJ.out.1.chg ck (fun a ha => by simp; exact NJ.out a ha)) (And.intro (RJ.out.2.1.chgS ck (fun x hx => ⟨fun a ha => by simp; exact MJ.out x hx a (.inl ha), fun a ha => by simp; exact MJ.out x hx a (.inr ha)⟩)) (And.intro (RJ.out.2.2.1.more ck.size) RJ.out.2.2.2)))
      replace RX := Lib.hid (And.intro (RX.out.1.chgS ck (fun a ha => by simp; exact XP.out a (.inl ha)) (fun a ha => by simp; exact XP.out a (.inr ha))) (fun a ha => Nat.lt_of_lt_of_le (RX.out.2 a ha) ck.size))
      replace CC := Lib.hid (CC.out.trans' ck (fun i hi => .inr (by have := GP.out; simp at hi; omega)))
      clear bk ok ck
      obtain ⟨wc, hwc⟩ : ∃ w9 : World, w9 = (((((((wc.setCell ⟨p, 0, none⟩ (.int .i64 X.n)).setCell ⟨p, 1, none⟩ (.int .i64 X.s)).setCell ⟨p, 2, none⟩ (.string X.p)).setCell ⟨p, 3, none⟩ (.int .i64 X.k)).setCell ⟨p, 4, none⟩ (.int .i64 X.m)).setCell ⟨p, 5, none⟩ (.slice X.A X.l X.c)).setCell ⟨p, 6, none⟩ (.slice X.B X.bl X.bc)) := ⟨_, rfl⟩
      rw [← hwc] at BP RI RJ RX CC ⊢
      clear hwc
      refine hK.out _ _ (DX.out _ CC.out) (fun hHeld => ?_)
      clear hK K
      try simp only [Act.put, sA, s0, s1]
      refine wpAnyH_done (by kernel_rfl) ?_ _
      clear hHeld
      exact JOIN A1 c1 zs A2 c2 us X p _ ⟨RI, RJ, RX, BP, CC⟩
  case rest =>
    rintro A1 c1 zs A2 c2 us X p w7 ⟨RI, RJ, RX, BP, hc⟩
    replace hc := hc.out
    replace C := Lib.hid (C.out.trans hc)
    replace B0 := Lib.hid (hc.at_ B0.out (by simp))
    replace HY := Lib.hid (HY.out.chg hc)
    clear hc DX
    have C7 := C
    have D := Lib.hid (Chg.refl [] w7)
    have HY7 := HY
    have G0 : Hid (g0 < w7.heap.size) := Lib.hid (lt_of_heap B0.out)
    have LP : Hid (p < w7.heap.size) := Lib.hid (lt_of_heap BP.out)
    have z0 := cell_of BP.out 0
    have z1 := cell_of BP.out 1
    have z2 := cell_of BP.out 2
    have z3 := cell_of BP.out 3
    have z4 := cell_of BP.out 4
    have z5 := cell_of BP.out 5
    have z6 := cell_of BP.out 6
    simp only [List.getElem?_toArray, List.getElem?_cons_succ, List.getElem?_cons_zero] at z0 z1 z2 z3 z4 z5 z6
    go_wp2_with fail
    clear z0 z1 z2 z3 z4 z5 z6
    refine (shput_any w7 A1 c1 zs es X f RI.out.1.reads RI.out.2.1 (by have := RI.out.2.2.2; have := LX.out; omega) SX.out RX.out.1 SF.out).mono ?_
    rintro r w8 ⟨AP, cp, ps, rfl, he, hc⟩
    have PF := Lib.hid he
    replace C := Lib.hid (C.out.trans hc)
    replace D := Lib.hid (D.out.trans hc)
    replace B0 := Lib.hid (hc.at_ B0.out (by simp))
    replace BP := Lib.hid (hc.at_ BP.out (by simp))
    clear hc he
    have z0 := cell_of B0.out 0
    have z1 := cell_of B0.out 1
    have z2 := cell_of B0.out 2
    have z3 := cell_of B0.out 3
    have z4 := cell_of B0.out 4
    have z5 := cell_of B0.out 5
    have z6 := cell_of B0.out 6
    simp only [List.getElem?_toArray, List.getElem?_cons_succ, List.getElem?_cons_zero] at z0 z1 z2 z3 z4 z5 z6
    go_wp2_with fail
    clear z0 z1 z2 z3 z4 z5 z6
    refine (ksputs_any w8 A c xs es y f (HA.out.chg C.out (by simp)) (HR.out.chg C.out) (by have := LX.out; omega) SX.out (HY7.out.chg D.out) SF.out).mono ?_
    rintro r w9 ⟨AQ, cq, qs, rfl, hq, hqe, hc⟩
    have QR := Lib.hid hq
    have QE := Lib.hid (hqe.chg (Chg.refl [] w9))
    have S89 := Lib.hid hc.size
    replace C := Lib.hid (C.out.trans hc)
    replace D := Lib.hid (D.out.trans hc)
    replace B0 := Lib.hid (hc.at_ B0.out (by simp))
    replace BP := Lib.hid (hc.at_ BP.out (by simp))
    replace PF := Lib.hid (PF.out.chg hc (by simp))
    clear hc hq hqe
    have S79H : Hid (w7.heap.size ≤ w9.heap.size) := Lib.hid D.out.size
    go_wp2_with fail
    refine (shjoin_any w9 A1 A2 c1 c2 zs us es fs (RI.out.1.reads.chg D.out (by simp)) (RJ.out.1.reads.chg D.out (by simp)) (RI.out.2.1.chg D.out) (RJ.out.2.1.chg D.out) (by have := RI.out.2.2.2; have := LX.out; have := RJ.out.2.2.2; have := LY.out; omega) SX.out SY.out).mono ?_
    rintro r wa ⟨AJ, cj, js, rfl, he, hc⟩
    have JF := Lib.hid he
    replace C := Lib.hid (C.out.trans hc)
    replace D := Lib.hid (D.out.trans hc)
    replace B0 := Lib.hid (hc.at_ B0.out (by simp))
    replace BP := Lib.hid (hc.at_ BP.out (by simp))
    replace PF := Lib.hid (PF.out.chg hc (by simp))
    replace QR := Lib.hid (QR.out.chg hc (by simp))
    replace QE := Lib.hid (QE.out.chg hc)
    clear hc he
    go_wp2_with fail
    refine (ksjoin_any wa A B c d xs ys es fs (HA.out.chg C.out (by simp)) (HB.out.chg C.out (by simp)) (HR.out.chg C.out) (HR'.out.chg C.out) (by have := LX.out; have := LY.out; omega) SX.out SY.out).mono ?_
    rintro r wb ⟨AK, ck, ks, rfl, hq, hqe, hc⟩
    have KR := Lib.hid hq
    have KE := Lib.hid (hqe.chg (Chg.refl [] wb))
    replace C := Lib.hid (C.out.trans hc)
    replace D := Lib.hid (D.out.trans hc)
    replace B0 := Lib.hid (hc.at_ B0.out (by simp))
    replace BP := Lib.hid (hc.at_ BP.out (by simp))
    replace PF := Lib.hid (PF.out.chg hc (by simp))
    replace QR := Lib.hid (QR.out.chg hc (by simp))
    replace QE := Lib.hid (QE.out.chg hc)
    replace JF := Lib.hid (JF.out.chg hc (by simp))
    clear hc hq hqe
    have PM : Hid ((∀ e ∈ (shJoinE es [f]).2, e.q.length ≤ 140737488351232) ∧ (shJoinE es [f]).2.length ≤ 11) := Lib.hid ⟨fun e he => by
      rcases shJoin_mem he with q | q
      · have := (SX.out e q).2; omega
      · rw [List.mem_singleton.1 q]; have := SF.out.2; omega, by have := shJoin_len es [f]; have := HR.out.1; have := LX.out; simp at *; omega⟩
    have JM : Hid ((∀ e ∈ (shJoinE es fs).2, e.q.length ≤ 140737488351232) ∧ (shJoinE es fs).2.length ≤ 20) := Lib.hid ⟨fun e he => by
      rcases shJoin_mem he with q | q
      · have := (SX.out e q).2; omega
      · have := (SY.out e q).2; omega, by have := shJoin_len es fs; have := HR.out.1; have := LX.out; have := HR'.out.1; have := LY.out; omega⟩
    have LPS : Hid (ps.length ≤ 100000 ∧ qs.length ≤ 100000) := Lib.hid ⟨by have := PF.out.all.ev.1; have := PM.out.2; omega, by have := QE.out.1; have := PM.out.2; omega⟩
    have LJS : Hid (js.length ≤ 100000 ∧ ks.length ≤ 100000) := Lib.hid ⟨by have := JF.out.all.ev.1; have := JM.out.2; omega, by have := KE.out.1; have := JM.out.2; omega⟩
    go_wp2_with fail
    refine (sameevs_any wb AP AQ cp cq ps qs _ _ PF.out.row.reads QR.out PF.out.all.ev QE.out LPS.out ⟨PM.out.1, PM.out.1⟩).mono ?_
    rintro r wc ⟨rfl, hc⟩
    rw [sameL_refl]
    replace C := Lib.hid (C.out.trans hc)
    replace D := Lib.hid (D.out.trans hc)
    replace B0 := Lib.hid (hc.at_ B0.out (by simp))
    replace BP := Lib.hid (hc.at_ BP.out (by simp))
    replace PF := Lib.hid (PF.out.chg hc (by simp))
    replace QR := Lib.hid (QR.out.chg hc (by simp))
    replace QE := Lib.hid (QE.out.chg hc)
    replace JF := Lib.hid (JF.out.chg hc (by simp))
    replace KR := Lib.hid (KR.out.chg hc (by simp))
    replace KE := Lib.hid (KE.out.chg hc)
    clear hc QR QE
    go_wp2_with fail
    refine (sameevs_any wc AJ AK cj ck js ks _ _ JF.out.row.reads KR.out JF.out.all.ev KE.out LJS.out ⟨JM.out.1, JM.out.1⟩).mono ?_
    rintro r wd ⟨rfl, hc⟩
    rw [sameL_refl]
    replace C := Lib.hid (C.out.trans hc)
    replace D := Lib.hid (D.out.trans hc)
    replace B0 := Lib.hid (hc.at_ B0.out (by simp))
    replace BP := Lib.hid (hc.at_ BP.out (by simp))
    replace PF := Lib.hid (PF.out.chg hc (by simp))
    replace JF := Lib.hid (JF.out.chg hc (by simp))
    replace KR := Lib.hid (KR.out.chg hc (by simp))
    replace KE := Lib.hid (KE.out.chg hc)
    clear hc KR KE
    go_wp2_with fail
    refine (shcheck_any wd A1 c1 zs es (RI.out.1.reads.chg D.out (by simp)) (RI.out.2.1.chg D.out) (by have := RI.out.2.2.2; have := LX.out; omega) (fun e he => (SX.out e he).1)).mono ?_
    rintro r we ⟨rfl, hc⟩
    replace C := Lib.hid (C.out.trans hc)
    replace D := Lib.hid (D.out.trans hc)
    replace B0 := Lib.hid (hc.at_ B0.out (by simp))
    replace BP := Lib.hid (hc.at_ BP.out (by simp))
    replace PF := Lib.hid (PF.out.chg hc (by simp))
    replace JF := Lib.hid (JF.out.chg hc (by simp))
    clear hc
    go_wp2_with fail
    refine (kscheck_any we A c xs es (HA.out.chg C.out (by simp)) (HR.out.chg C.out) (by have := LX.out; omega) (fun e he => (SX.out e he).1)).mono ?_
    rintro r wf ⟨rfl, hc⟩
    replace C := Lib.hid (C.out.trans hc)
    replace D := Lib.hid (D.out.trans hc)
    replace B0 := Lib.hid (hc.at_ B0.out (by simp))
    replace BP := Lib.hid (hc.at_ BP.out (by simp))
    replace PF := Lib.hid (PF.out.chg hc (by simp))
    replace JF := Lib.hid (JF.out.chg hc (by simp))
    clear hc
    go_wp2_with fail
    refine (overevs_own wf w7.heap.size w8.heap.size AP cp ps _ PF.out LPS.out.1).mono ?_
    rintro r wg ⟨rfl, S, hS, h9⟩
    replace D := Lib.hid (D.out.trans' h9 (fun i hi => .inr (hS i hi).1))
    replace C := Lib.hid (C.out.trans' h9 (fun i hi => .inr (Nat.le_trans C7.out.size (hS i hi).1)))
    replace B0 := Lib.hid (h9.at_ B0.out (fun q => by have := (hS _ q).1; have := G0.out; omega))
    replace BP := Lib.hid (h9.at_ BP.out (fun q => by have := (hS _ q).1; have := LP.out; omega))
    replace JF := Lib.hid (JF.out.chg h9 (fun i hi q => by have := (hS i hi).2; have := S89.out; omega))
    clear hS h9 PF
    go_wp2_with fail
    refine (overevs_own wg w9.heap.size wa.heap.size AJ cj js _ JF.out LJS.out.1).mono ?_
    rintro r wh ⟨rfl, S, hS, h9⟩
    have S79 := S79H
    replace D := Lib.hid (D.out.trans' h9 (fun i hi => .inr (Nat.le_trans S79.out (hS i hi).1)))
    replace C := Lib.hid (C.out.trans' h9 (fun i hi => .inr (Nat.le_trans C7.out.size (Nat.le_trans S79.out (hS i hi).1))))
    replace B0 := Lib.hid (h9.at_ B0.out (fun q => by have := (hS _ q).1; have := G0.out; have := S79.out; omega))
    replace BP := Lib.hid (h9.at_ BP.out (fun q => by have := (hS _ q).1; have := LP.out; have := S79.out; omega))
    clear hS h9 JF
    have QX : Hid (∀ e ∈ es, e.q.length ≤ 140737488351232) := Lib.hid (fun e he => by have := (SX.out e he).2; omega)
    have QY : Hid (∀ e ∈ fs, e.q.length ≤ 140737488351232) := Lib.hid (fun e he => by have := (SY.out e he).2; omega)
    go_wp2_with fail
    refine (sameevs_any wh A1 A c1 c zs xs es es (RI.out.1.reads.chg D.out (by simp)) (HA.out.chg C.out (by simp)) (RI.out.2.1.chg D.out) (HR.out.chg C.out) ⟨by have := RI.out.2.2.2; have := LX.out; omega, by have := LX.out; omega⟩ ⟨QX.out, QX.out⟩).mono ?_
    rintro r wi ⟨rfl, hc⟩
    rw [sameL_refl]
    replace C := Lib.hid (C.out.trans hc)
    replace D := Lib.hid (D.out.trans hc)
    replace B0 := Lib.hid (hc.at_ B0.out (by simp))
    replace BP := Lib.hid (hc.at_ BP.out (by simp))
    clear hc
    go_wp2_with fail
    refine (sameevs_any wi A2 B c2 d us ys fs fs (RJ.out.1.reads.chg D.out (by simp)) (HB.out.chg C.out (by simp)) (RJ.out.2.1.chg D.out) (HR'.out.chg C.out) ⟨by have := RJ.out.2.2.2; have := LY.out; omega, by have := LY.out; omega⟩ ⟨QY.out, QY.out⟩).mono ?_
    rintro r wj ⟨rfl, hc⟩
    rw [sameL_refl]
    replace C := Lib.hid (C.out.trans hc)
    replace D := Lib.hid (D.out.trans hc)
    replace B0 := Lib.hid (hc.at_ B0.out (by simp))
    replace BP := Lib.hid (hc.at_ BP.out (by simp))
    clear hc
    have y0 := cell_of B0.out 0
    have y1 := cell_of B0.out 1
    have y2 := cell_of B0.out 2
    have y3 := cell_of B0.out 3
    have y4 := cell_of B0.out 4
    have y5 := cell_of B0.out 5
    have y6 := cell_of B0.out 6
    simp only [List.getElem?_toArray, List.getElem?_cons_succ, List.getElem?_cons_zero] at y0 y1 y2 y3 y4 y5 y6
    have z0 := cell_of BP.out 0
    have z1 := cell_of BP.out 1
    have z2 := cell_of BP.out 2
    have z3 := cell_of BP.out 3
    have z4 := cell_of BP.out 4
    have z5 := cell_of BP.out 5
    have z6 := cell_of BP.out 6
    simp only [List.getElem?_toArray, List.getElem?_cons_succ, List.getElem?_cons_zero] at z0 z1 z2 z3 z4 z5 z6
    go_wp2_with fail
    clear z0 z1 z2 z3 z4 z5 z6
    clear y0 y1 y2 y3 y4 y5 y6
    have SE : Hid (sameP f f = true) := Lib.hid (by unfold sameP; simp)
    refine (sameev_any wj X y f f (RX.out.1.chg D.out) (HY7.out.chg D.out) ⟨SF.out.1.2.2, SF.out.1.2.2⟩).mono ?_
    rintro r wk ⟨rfl, hc⟩
    rw [SE.out]
    replace C := Lib.hid (C.out.trans hc)
    replace D := Lib.hid (D.out.trans hc)
    replace B0 := Lib.hid (hc.at_ B0.out (by simp))
    replace BP := Lib.hid (hc.at_ BP.out (by simp))
    clear hc
    go_wp2_with fail
    refine (l9awake_run wk).mono ?_
    rintro r wl ⟨rfl, hc⟩
    replace C := Lib.hid (C.out.trans hc)
    replace D := Lib.hid (D.out.trans hc)
    replace B0 := Lib.hid (hc.at_ B0.out (by simp))
    replace BP := Lib.hid (hc.at_ BP.out (by simp))
    clear hc
    go_wp2
    go_ret
    exact ⟨(by first | rfl | simp), C.out⟩
end
end Go.Proofs.YtdfapiffalmjcaaGreatDoor
