/- The document's Put (store). The document's Join (store). As range_own1, of a body that may also write maps (by substitution in XRangel). store.Paths. The law's events (layer 10): purely. The law's one, is, three (layer 10). -/
import Derived.Test.YtomgjogkkoigbaaGreatDoorZspx
import Derived.Test.YtomgjogkkoigbaaGreatDoorZspy
import Derived.Test.YtomgjogkkoigbaaGreatDoorZspz
import Derived.Test.YtomgjogkkoigbaaGreatDoorZspza
import Derived.Test.YtomgjogkkoigbaaGreatDoorZspzb
import Derived.Test.YtomgjogkkoigbaaGreatDoorZspw
import Derived.Deep.Cut
import Derived.Deep.RegionHeld3
import Derived.Test.YtomgjogkkoigbaaGreatDoorZspq
import Derived.Test.YtomgjogkkoigbaaGreatDoorZspb
import Derived.Maps.OwnIn
import Derived.Sort.CutIn
import Derived.Test.YtomgjogkkoigbaaGreatDoorZspd
set_option linter.unusedSimpArgs false
set_option linter.unusedVariables false
namespace Go.Proofs.YtomgjogkkoigbaaGreatDoor
section
open Go.RowKit Go.Lib


def doneK (f : EvP) (d : Bool) (x : EvP) : Bool := d || !lessL x.p f.p
def midK (f : EvP) (SH : List EvP) (st : Bool × List EvP) (x : EvP) : List EvP := if (!st.1 && !lessL x.p f.p) = true then st.2 ++ SH else st.2
def stepK (f : EvP) (SH : List EvP) (st : Bool × List EvP) (x : EvP) : Bool × List EvP := (doneK f st.1 x, if x.p = f.p then midK f SH st x else midK f SH st x ++ [x])
theorem stepK_done (f : EvP) (SH : List EvP) : ∀ (es acc : List EvP), es.foldl (stepK f SH) (true, acc) = (true, acc ++ es.filter (fun x => !decide (x.p = f.p)))
 | [], acc => by simp
 | x :: l, acc => by
  rw [List.foldl_cons]
  have e : stepK f SH (true, acc) x = (true, acc ++ [x].filter (fun x => !decide (x.p = f.p))) := by
   unfold stepK doneK midK
   by_cases q : x.p = f.p <;> simp [q]
  rw [e, stepK_done f SH l, List.append_assoc, ← List.filter_append]
  rfl
def endK (SH : List EvP) (r : Bool × List EvP) : List EvP := if r.1 = true then r.2 else r.2 ++ SH
theorem less_anti {a b : List UInt8} (h : lessL a b = true) : lessL b a = false := by
 rcases q : lessL b a with _ | _
 ·
  rfl
 ·
  have := less_trans _ _ _ h q
  rw [less_self] at this
  cases this
theorem stepK_put (f : EvP) (SH : List EvP) : ∀ (es acc : List EvP), es.Pairwise leP → endK SH (es.foldl (stepK f SH) (false, acc)) = acc ++ (es.filter (fun x => lessL x.p f.p) ++ (SH ++ es.filter (fun x => lessL f.p x.p)))
 | [], acc, _ => by simp [endK]
 | x :: l, acc, h => by
  rw [List.foldl_cons]
  have hl := (List.pairwise_cons.1 h).2
  have hx := (List.pairwise_cons.1 h).1
  rcases q : lessL x.p f.p with _ | _
  ·
   have e : stepK f SH (false, acc) x = (true, (acc ++ SH) ++ [x].filter (fun x => !decide (x.p = f.p))) := by
    unfold stepK doneK midK
    by_cases t : x.p = f.p <;> simp [q, t, less_self]
   have nl : ∀ y ∈ x :: l, lessL y.p f.p = false := by
    intro y hy
    rcases List.mem_cons.1 hy with r | r
    ·
     rw [r]; exact q
    ·
     rcases hx y r with a | a
     ·
      rw [← a]; exact q
     ·
      rcases b : lessL y.p f.p with _ | _
      ·
       rfl
      ·
       rw [less_trans _ _ _ a b] at q; cases q
   have f1 : (x :: l).filter (fun x => lessL x.p f.p) = [] := List.filter_eq_nil_iff.2 (fun y hy => by rw [nl y hy]; decide)
   have f2 : (x :: l).filter (fun x => !decide (x.p = f.p)) = (x :: l).filter (fun x => lessL f.p x.p) := List.filter_congr (fun y hy => by
    rcases less_tri y.p f.p with a | a | a
    ·
     rw [a, less_self]; simp
    ·
     rw [nl y hy] at a; cases a
    ·
     rw [a]
     have : ¬ y.p = f.p := fun b => less_ne a b.symm
     simp [this])
   rw [e, stepK_done f SH l, List.append_assoc, ← List.filter_append]
   show endK SH (true, acc ++ SH ++ (x :: l).filter (fun x => !decide (x.p = f.p))) = _
   rw [f1, f2]
   simp [endK]
  ·
   have ne : ¬ x.p = f.p := less_ne q
   have e : stepK f SH (false, acc) x = (false, acc ++ [x]) := by
    unfold stepK doneK midK
    simp [q, ne]
   rw [e, stepK_put f SH l _ hl, List.filter_cons_of_pos (by exact q), List.filter_cons_of_neg (by rw [less_anti q]; decide)]
   simp
theorem ktput_end {es : List EvP} {f : EvP} (h : StOk es) : endK (putE (atS es f.p) f) (es.foldl (stepK f (putE (atS es f.p) f)) (false, [])) = putS es f := by
 rw [stepK_put f _ es [] h.1]
 rfl
theorem ks_shelf {es : List EvP} {f : EvP} (h : StOk es) (hf : chkEv f = 0) : shJoinE (es.filter (fun e => decide (e.p = f.p))) [f] = (0, putE (atS es f.p) f) := by
 unfold shJoinE
 rw [if_pos ⟨stOk_at h f.p, shOk_one.2 hf, fun x hx y hy => by
  rw [List.mem_singleton.1 hy]
  exact of_decide_eq_true (List.mem_filter.1 hx).2⟩]
 rfl
theorem stepK_snoc {f : EvP} {SH es : List EvP} {k : Nat} {e : EvP} (h : es[k]? = some e) : (es.take (k + 1)).foldl (stepK f SH) (false, []) = stepK f SH ((es.take k).foldl (stepK f SH) (false, [])) e := by
 rw [List.take_add_one, h, List.foldl_append]
 rfl

set_option maxRecDepth 100000 in
set_option maxHeartbeats 32000000 in
theorem ktput_any (w : World) (A : Option Addr) (c : Nat) (xs : List EvT) (es : List EvP) (y : EvT) (f : EvP) (h : RdK evTy w A xs.length xs) (hx : EvsR w xs es) (hn : xs.length ≤ 800) (hs : ∀ e ∈ es, EvSm e ∧ e.q.length ≤ 100000) (hy : EvR w y f) (ht : EvSm f ∧ f.q.length ≤ 100000) :
  Calls Tryz.prog 12 #[.slice A xs.length c, .agg #[.int .i64 y.n, .int .i64 y.s, .string y.p, .int .i64 y.k, .int .i64 y.m, .slice y.A y.l y.c, .slice y.B y.bl y.bc]] w fun r w' => ∃ (A' : Option Addr) (c' : Nat) (zs : List EvT), r = .returned (.tuple #[.slice A' zs.length c', .int .i64 (stPut es f).1]) ∧ RdK evTy w' A' zs.length zs ∧ EvsR w' zs (stPut es f).2 ∧ Chg [] w w' := by

 obtain ⟨R, hR⟩ : ∃ R, stPut es f = R := ⟨_, rfl⟩
 rw [hR]
 have HRR := Lib.hid hR
 obtain ⟨w1, hw, hc, b0⟩ := news1 w (.cells #[.int .i64 y.n, .int .i64 y.s, .string y.p, .int .i64 y.k, .int .i64 y.m, .slice y.A y.l y.c, .slice y.B y.bl y.bc] 30)
 have W1 := Lib.hid hw
 have YP : Hid (y.p = strOf f.p) := Lib.hid hy.p
 have YD : Hid (y.n = f.n ∧ y.s = f.s) := Lib.hid ⟨hy.n, hy.s⟩
 obtain ⟨g0, hg0⟩ : ∃ g, w.heap.size = g := ⟨_, rfl⟩
 have SZ := Lib.hid hg0
 rw [hg0, hy.p] at b0
 have BX : Hid (∀ w', Chg [] w1 w' → w'.cell? ⟨g0, 0, none⟩ = some (.int .i64 y.n) ∧ w'.cell? ⟨g0, 1, none⟩ = some (.int .i64 y.s) ∧ w'.cell? ⟨g0, 2, none⟩ = some (.string (strOf f.p)) ∧ w'.cell? ⟨g0, 3, none⟩ = some (.int .i64 y.k) ∧ w'.cell? ⟨g0, 4, none⟩ = some (.int .i64 y.m) ∧ w'.cell? ⟨g0, 5, none⟩ = some (.slice y.A y.l y.c) ∧ w'.cell? ⟨g0, 6, none⟩ = some (.slice y.B y.bl y.bc)) := Lib.hid (fun w' hc => by
  have q := hc.at_ b0 (by simp)
  exact ⟨cell_of q 0, cell_of q 1, cell_of q 2, cell_of q 3, cell_of q 4, cell_of q 5, cell_of q 6⟩)
 have HA := Lib.hid (h.chg hc (by simp))
 have HX := Lib.hid (hx.chg hc)
 have HY := Lib.hid (hy.chg hc)
 have C0 := Lib.hid hc
 have HN := Lib.hid hn
 have HS := Lib.hid hs
 have HT := Lib.hid ht
 have XL : Hid (xs.length = es.length) := Lib.hid hx.1
 clear hw hc b0 hg0 h hx hn hs hy ht hR
 go_enter Tryz.func12, Tryz.ntmps12
 go_upto_region 1 with fail
 rw [← W1.out, SZ.out]
 clear W1 SZ
 have CK := Lib.hid (ktcheck_any w1 A c xs es HA.out HX.out (by have := HN.out; omega) HS.out)
 go_wp2_with fail
 refine CK.out.mono ?_
 rintro r w2 ⟨rfl, hc⟩
 have C := Lib.hid hc
 clear hc CK
 rcases stE_two es with e1 | e1
 rotate_left
 ·
  have ER : Hid (R = (2, [])) := Lib.hid (by rw [← HRR.out]; unfold stPut; rw [if_pos (fun q => by rw [stE_zero.2 q.1] at e1; cases e1)])
  rw [e1]
  clear e1; go_wp2; go_ret2
  rw [ER.out]
  exact ⟨none, 0, [], rfl, RdK.nil _ _, EvsR.nil _, C0.out.trans C.out⟩
 have OK : Hid (StOk es) := Lib.hid (stE_zero.1 e1)
 rw [e1]
 clear e1
 obtain ⟨z0, z1, z2, z3, z4, z5, z6⟩ := BX.out _ C.out
 have VC := vecheck_any w2 y f (HY.out.chg C.out) HT.out.1
 rw [YP.out] at VC
 have VC2 := Lib.hid VC
 clear VC; go_wp2_with fail; clear z0 z1 z2 z3 z4 z5 z6
 refine VC2.out.mono ?_
 rintro r w3 ⟨rfl, hc⟩
 replace C := Lib.hid (C.out.trans hc)
 clear hc VC2
 rcases chkEv_two f with e1 | e1
 rotate_left
 ·
  have ER : Hid (R = (2, [])) := Lib.hid (by rw [← HRR.out]; unfold stPut; rw [if_pos (fun q => by rw [q.2] at e1; cases e1)])
  rw [e1]
  clear e1; go_wp2; go_ret2
  rw [ER.out]
  exact ⟨none, 0, [], rfl, RdK.nil _ _, EvsR.nil _, C0.out.trans C.out⟩
 have OF : Hid (chkEv f = 0) := Lib.hid e1
 rw [e1]
 clear e1; go_wp2
 go_loopw [6] (fun v6 wr => ∃ (k : Nat), k ≤ xs.length ∧ v6 = .int .i64 (k : Int) ∧ Hid (∀ x ∈ es.take k, elseQ f x = false) ∧ Hid (Chg [] w1 wr)) (fun v6 _ => xs.length - (RowKit.intOf v6).toNat)
 case atStart => exact ⟨0, Nat.zero_le _, rfl, Lib.hid (by simp), C⟩
 case round =>
  clear C
  obtain ⟨k, hk, rfl, NQ, PC⟩ := hrel
  have j0 : (0 : Int) ≤ (k : Int) := by omega
  by_cases hlt : k < xs.length
  ·
   have j1 : (k : Int) < (xs.length : Int) := by omega
   have j3 : IntKind.i64.wrap ((k : Int) + 1) = (k : Int) + 1 := IntWalk.i64_in _ (by have := HN.out; omega)
   obtain ⟨g3, o3, eA, _⟩ := HA.out.line (by omega)
   have EA := Lib.hid eA
   obtain ⟨x, e, ex, ee, rx⟩ := HX.out.at_ hlt
   have EX := Lib.hid ex
   have EE := Lib.hid ee
   have XD : Hid (x.n = e.n ∧ x.s = e.s ∧ x.p = strOf e.p) := Lib.hid ⟨rx.n, rx.s, rx.p⟩
   clear ex ee rx
   rw [eA]
   clear eA
   have HC : Hid (∀ w', Chg [] wr w' → (w'.cell? ⟨g3, o3 + k * 7, none⟩ = some (.int .i64 x.n) ∧ w'.cell? ⟨g3, o3 + k * 7 + 1, none⟩ = some (.int .i64 x.s) ∧ w'.cell? ⟨g3, o3 + k * 7 + 2, none⟩ = some (.string (strOf e.p))) ∧ w'.cell? ⟨g0, 0, none⟩ = some (.int .i64 y.n) ∧ w'.cell? ⟨g0, 1, none⟩ = some (.int .i64 y.s) ∧ w'.cell? ⟨g0, 2, none⟩ = some (.string (strOf f.p)) ∧ w'.cell? ⟨g0, 3, none⟩ = some (.int .i64 y.k) ∧ w'.cell? ⟨g0, 4, none⟩ = some (.int .i64 y.m) ∧ w'.cell? ⟨g0, 5, none⟩ = some (.slice y.A y.l y.c) ∧ w'.cell? ⟨g0, 6, none⟩ = some (.slice y.B y.bl y.bc)) := Lib.hid (fun w' hc => by
    have a := evCells ((EA.out ▸ HA.out).chg (PC.out.trans hc) (by simp)) EX.out
    have p := a.2.2.1
    rw [XD.out.2.2] at p
    exact ⟨⟨a.1, a.2.1, p⟩, BX.out _ (PC.out.trans hc)⟩)
   by_cases hd : x.n = y.n ∧ x.s = y.s
   ·
    skip
    have dq : ((x.n == y.n) : Bool) = true := by simpa using hd.1
    have dr : ((x.s == y.s) : Bool) = true := by simpa using hd.2
    have DD : Hid (e.n = f.n ∧ e.s = f.s) := Lib.hid ⟨by rw [← XD.out.1, ← YD.out.1]; exact hd.1, by rw [← XD.out.2.1, ← YD.out.2]; exact hd.2⟩
    clear hd
    by_cases hp : e.p = f.p
    ·
     skip
     have NQ1 : Hid (∀ x ∈ es.take (k + 1), elseQ f x = false) := Lib.hid (fun z hz => by
      rw [List.take_add_one, EE.out] at hz
      rcases List.mem_append.1 hz with q | q
      ·
       exact NQ.out z q
      ·
       simp at q; subst q; unfold elseQ; rw [decide_eq_true hp]; simp)
     have e4 : (e.p == f.p) = true := by rw [hp]; exact beq_self_eq_true _
     have e5 : ((strOf e.p == strOf f.p) : Bool) = true := by rw [hp]; show ((f.p.toArray == f.p.toArray) : Bool) = true; simp
     have e6 : ((strOf e.p != strOf f.p) : Bool) = false := by simp only [bne, e5]; rfl
     have e7 : (e.p != f.p) = false := by simp only [bne, e4]; rfl
     clear hp
     go_upto_region 6 with fail
     refine wp_region_held_drew (S := fun w' => Chg [] wr w') (by kernel_rfl) (Chg.refl [] wr).drew (fun hHeld => ?_)
     refine sy 0 26 rfl rfl ?_; try simp only [Act.put, sA, s0, s1]
     refine sy 1 27 rfl rfl ?_; try simp only [Act.put, sA, s0, s1]
     refine sy 2 28 rfl rfl ?_; try simp only [Act.put, sA, s0, s1]
     refine sy 3 29 rfl rfl ?_; try simp only [Act.put, sA, s0, s1]
     refine sy 4 30 rfl rfl ?_ (hy := by (intro w hSw; (try dsimp only at hSw); have hq := HC.out _ hSw; obtain ⟨⟨p0, p1, p2⟩, q0, q1, q2, q3, q4, q5, q6⟩ := hq; go_simp; try with_reducible rfl))
     try simp only [Act.put, sA, s0, s1]
     refine sy 5 31 rfl rfl ?_; try simp only [Act.put, sA, s0, s1]
     refine sy 6 32 rfl rfl ?_ (hy := by (intro w hSw; (try dsimp only at hSw); have hq := HC.out _ hSw; obtain ⟨⟨p0, p1, p2⟩, q0, q1, q2, q3, q4, q5, q6⟩ := hq; go_simp; try with_reducible rfl))
     try simp only [Act.put, sA, s0, s1]
     refine sy 7 33 rfl rfl ?_; try simp only [Act.put, sA, s0, s1]
     refine sy 8 34 rfl rfl ?_; try simp only [Act.put, sA, s0, s1]
     refine sy 9 35 rfl rfl ?_; try simp only [Act.put, sA, s0, s1]
     refine sy 10 36 rfl rfl ?_; try simp only [Act.put, sA, s0, s1]
     refine sy 11 37 rfl rfl ?_; try simp only [Act.put, sA, s0, s1]
     refine sy 12 38 rfl rfl ?_; try simp only [Act.put, sA, s0, s1]
     refine sy 13 39 rfl rfl ?_ (hy := by (intro w hSw; (try dsimp only at hSw); have hq := HC.out _ hSw; obtain ⟨⟨p0, p1, p2⟩, q0, q1, q2, q3, q4, q5, q6⟩ := hq; go_simp; try with_reducible rfl))
     try simp only [Act.put, sA, s0, s1]
     refine sy 14 40 rfl rfl ?_; try simp only [Act.put, sA, s0, s1]
     refine sy 15 41 rfl rfl ?_ (hy := by (intro w hSw; (try dsimp only at hSw); have hq := HC.out _ hSw; obtain ⟨⟨p0, p1, p2⟩, q0, q1, q2, q3, q4, q5, q6⟩ := hq; go_simp; try with_reducible rfl))
     try simp only [Act.put, sA, s0, s1]
     refine sy 16 42 rfl rfl ?_; try simp only [Act.put, sA, s0, s1]
     refine sy 17 43 rfl rfl ?_; try simp only [Act.put, sA, s0, s1]
     refine wpAnyH_done (by kernel_rfl) ?_ _
     replace PC := Lib.hid (PC.out.trans hHeld)
     clear hHeld HC; go_wp2; go_round
     case rel => exact ⟨k + 1, by omega, by go_num, NQ1, PC⟩
     case measure => simp [RowKit.intOf]; omega
    have ER : Hid (R = (7, [])) := Lib.hid (by
     rw [← HRR.out]
     unfold stPut
     rw [if_neg (fun q => q ⟨OK.out, OF.out⟩), if_pos]
     rw [elseE_is, List.any_eq_true]
     exact ⟨e, List.mem_of_getElem? EE.out, by unfold elseQ; rw [decide_eq_true DD.out, decide_eq_false hp]; rfl⟩)
    have e1 := strOf_ne hp
    have e3 := strOf_ne2 hp
    have e4 : (e.p == f.p) = false := beq_eq_false_iff_ne.2 hp
    have e6 : ((strOf e.p != strOf f.p) : Bool) = true := by simp only [bne, e1]; rfl
    have e7 : (e.p != f.p) = true := by simp only [bne, e4]; rfl
    clear hp
    go_upto_region 6 with fail
    refine wp_region_held_drew (S := fun w' => Chg [] wr w') (by kernel_rfl) (Chg.refl [] wr).drew (fun hHeld => ?_)
    refine sy 0 26 rfl rfl ?_; try simp only [Act.put, sA, s0, s1]
    refine sy 1 27 rfl rfl ?_; try simp only [Act.put, sA, s0, s1]
    refine sy 2 28 rfl rfl ?_; try simp only [Act.put, sA, s0, s1]
    refine sy 3 29 rfl rfl ?_; try simp only [Act.put, sA, s0, s1]
    refine sy 4 30 rfl rfl ?_ (hy := by (intro w hSw; (try dsimp only at hSw); have hq := HC.out _ hSw; obtain ⟨⟨p0, p1, p2⟩, q0, q1, q2, q3, q4, q5, q6⟩ := hq; go_simp; try with_reducible rfl))
    try simp only [Act.put, sA, s0, s1]
    refine sy 5 31 rfl rfl ?_; try simp only [Act.put, sA, s0, s1]
    refine sy 6 32 rfl rfl ?_ (hy := by (intro w hSw; (try dsimp only at hSw); have hq := HC.out _ hSw; obtain ⟨⟨p0, p1, p2⟩, q0, q1, q2, q3, q4, q5, q6⟩ := hq; go_simp; try with_reducible rfl))
    try simp only [Act.put, sA, s0, s1]
    refine sy 7 33 rfl rfl ?_; try simp only [Act.put, sA, s0, s1]
    refine sy 8 34 rfl rfl ?_; try simp only [Act.put, sA, s0, s1]
    refine sy 9 35 rfl rfl ?_; try simp only [Act.put, sA, s0, s1]
    refine sy 10 36 rfl rfl ?_; try simp only [Act.put, sA, s0, s1]
    refine sy 11 37 rfl rfl ?_; try simp only [Act.put, sA, s0, s1]
    refine sy 12 38 rfl rfl ?_; try simp only [Act.put, sA, s0, s1]
    refine sy 13 39 rfl rfl ?_ (hy := by (intro w hSw; (try dsimp only at hSw); have hq := HC.out _ hSw; obtain ⟨⟨p0, p1, p2⟩, q0, q1, q2, q3, q4, q5, q6⟩ := hq; go_simp; try with_reducible rfl))
    try simp only [Act.put, sA, s0, s1]
    refine sy 14 40 rfl rfl ?_; try simp only [Act.put, sA, s0, s1]
    refine sy 15 41 rfl rfl ?_ (hy := by (intro w hSw; (try dsimp only at hSw); have hq := HC.out _ hSw; obtain ⟨⟨p0, p1, p2⟩, q0, q1, q2, q3, q4, q5, q6⟩ := hq; go_simp; try with_reducible rfl))
    try simp only [Act.put, sA, s0, s1]
    refine sy 16 42 rfl rfl ?_; try simp only [Act.put, sA, s0, s1]
    refine sy 17 43 rfl rfl ?_; try simp only [Act.put, sA, s0, s1]
    refine wpAnyH_done (by kernel_rfl) ?_ _
    replace PC := Lib.hid (PC.out.trans hHeld)
    clear hHeld HC; go_wp2; go_ret2
    rw [ER.out]
    exact ⟨none, 0, [], rfl, RdK.nil _ _, EvsR.nil _, C0.out.trans PC.out⟩
   have ND : Hid (¬ (e.n = f.n ∧ e.s = f.s)) := Lib.hid (fun q => hd ⟨by rw [XD.out.1, YD.out.1]; exact q.1, by rw [XD.out.2.1, YD.out.2]; exact q.2⟩)
   have NQ1 : Hid (∀ x ∈ es.take (k + 1), elseQ f x = false) := Lib.hid (fun z hz => by
    rw [List.take_add_one, EE.out] at hz
    rcases List.mem_append.1 hz with q | q
    ·
     exact NQ.out z q
    ·
     simp at q; subst q; unfold elseQ; rw [decide_eq_false ND.out]; rfl)
   by_cases h1 : x.n = y.n
   ·
    have dq : ((x.n == y.n) : Bool) = true := by simpa using h1
    have dr : ((x.s == y.s) : Bool) = false := by simpa using (fun q => hd ⟨h1, q⟩)
    clear h1 hd
    go_upto_region 6 with fail
    refine wp_region_held_drew (S := fun w' => Chg [] wr w') (by kernel_rfl) (Chg.refl [] wr).drew (fun hHeld => ?_)
    refine sy 0 26 rfl rfl ?_; try simp only [Act.put, sA, s0, s1]
    refine sy 1 27 rfl rfl ?_; try simp only [Act.put, sA, s0, s1]
    refine sy 2 28 rfl rfl ?_; try simp only [Act.put, sA, s0, s1]
    refine sy 3 29 rfl rfl ?_; try simp only [Act.put, sA, s0, s1]
    refine sy 4 30 rfl rfl ?_ (hy := by (intro w hSw; (try dsimp only at hSw); have hq := HC.out _ hSw; obtain ⟨⟨p0, p1, p2⟩, q0, q1, q2, q3, q4, q5, q6⟩ := hq; go_simp; try with_reducible rfl))
    try simp only [Act.put, sA, s0, s1]
    refine sy 5 31 rfl rfl ?_; try simp only [Act.put, sA, s0, s1]
    refine sy 6 32 rfl rfl ?_ (hy := by (intro w hSw; (try dsimp only at hSw); have hq := HC.out _ hSw; obtain ⟨⟨p0, p1, p2⟩, q0, q1, q2, q3, q4, q5, q6⟩ := hq; go_simp; try with_reducible rfl))
    try simp only [Act.put, sA, s0, s1]
    refine sy 7 33 rfl rfl ?_; try simp only [Act.put, sA, s0, s1]
    refine sy 8 34 rfl rfl ?_; try simp only [Act.put, sA, s0, s1]
    refine sn 9 35 rfl rfl ?_; try simp only [Act.put, sA, s0, s1]
    refine sn 10 36 rfl rfl ?_; try simp only [Act.put, sA, s0, s1]
    refine sn 11 37 rfl rfl ?_; try simp only [Act.put, sA, s0, s1]
    refine sn 12 38 rfl rfl ?_; try simp only [Act.put, sA, s0, s1]
    refine sn 13 39 rfl rfl ?_; try simp only [Act.put, sA, s0, s1]
    refine sn 14 40 rfl rfl ?_; try simp only [Act.put, sA, s0, s1]
    refine sn 15 41 rfl rfl ?_; try simp only [Act.put, sA, s0, s1]
    refine sn 16 42 rfl rfl ?_; try simp only [Act.put, sA, s0, s1]
    refine sy 17 43 rfl rfl ?_; try simp only [Act.put, sA, s0, s1]
    refine wpAnyH_done (by kernel_rfl) ?_ _
    replace PC := Lib.hid (PC.out.trans hHeld)
    clear hHeld HC; go_wp2; go_round
    case rel => exact ⟨k + 1, by omega, by go_num, NQ1, PC⟩
    case measure => simp [RowKit.intOf]; omega
   have dq : ((x.n == y.n) : Bool) = false := by simpa using h1
   clear h1 hd
   go_upto_region 6 with fail
   refine wp_region_held_drew (S := fun w' => Chg [] wr w') (by kernel_rfl) (Chg.refl [] wr).drew (fun hHeld => ?_)
   refine sy 0 26 rfl rfl ?_; try simp only [Act.put, sA, s0, s1]
   refine sy 1 27 rfl rfl ?_; try simp only [Act.put, sA, s0, s1]
   refine sy 2 28 rfl rfl ?_; try simp only [Act.put, sA, s0, s1]
   refine sy 3 29 rfl rfl ?_; try simp only [Act.put, sA, s0, s1]
   refine sy 4 30 rfl rfl ?_ (hy := by (intro w hSw; (try dsimp only at hSw); have hq := HC.out _ hSw; obtain ⟨⟨p0, p1, p2⟩, q0, q1, q2, q3, q4, q5, q6⟩ := hq; go_simp; try with_reducible rfl))
   try simp only [Act.put, sA, s0, s1]
   refine sy 5 31 rfl rfl ?_; try simp only [Act.put, sA, s0, s1]
   refine sy 6 32 rfl rfl ?_ (hy := by (intro w hSw; (try dsimp only at hSw); have hq := HC.out _ hSw; obtain ⟨⟨p0, p1, p2⟩, q0, q1, q2, q3, q4, q5, q6⟩ := hq; go_simp; try with_reducible rfl))
   try simp only [Act.put, sA, s0, s1]
   refine sy 7 33 rfl rfl ?_; try simp only [Act.put, sA, s0, s1]
   refine sy 8 34 rfl rfl ?_; try simp only [Act.put, sA, s0, s1]
   refine sn 9 35 rfl rfl ?_; try simp only [Act.put, sA, s0, s1]
   refine sn 10 36 rfl rfl ?_; try simp only [Act.put, sA, s0, s1]
   refine sn 11 37 rfl rfl ?_; try simp only [Act.put, sA, s0, s1]
   refine sn 12 38 rfl rfl ?_; try simp only [Act.put, sA, s0, s1]
   refine sn 13 39 rfl rfl ?_; try simp only [Act.put, sA, s0, s1]
   refine sn 14 40 rfl rfl ?_; try simp only [Act.put, sA, s0, s1]
   refine sn 15 41 rfl rfl ?_; try simp only [Act.put, sA, s0, s1]
   refine sn 16 42 rfl rfl ?_; try simp only [Act.put, sA, s0, s1]
   refine sy 17 43 rfl rfl ?_; try simp only [Act.put, sA, s0, s1]
   refine wpAnyH_done (by kernel_rfl) ?_ _
   replace PC := Lib.hid (PC.out.trans hHeld)
   clear hHeld HC; go_wp2; go_round
   case rel => exact ⟨k + 1, by omega, by go_num, NQ1, PC⟩
   case measure => simp [RowKit.intOf]; omega
  ·
   obtain rfl : k = xs.length := by omega
   have j1 : ¬ (xs.length : Int) < (xs.length : Int) := by omega
   have ER : Hid (R = (0, putS es f)) := Lib.hid (by
    rw [← HRR.out]
    unfold stPut
    rw [if_neg (fun q => q ⟨OK.out, OF.out⟩), if_neg]
    rw [elseE_is, Bool.not_eq_true, List.any_eq_false]
    intro z hz
    rw [NQ.out z (by rw [HX.out.1, List.take_length]; exact hz)]
    decide)
   clear NQ
   generalize wr = wk at *
   clear wr
   have SHL : Hid (∀ w', Chg [] wk w' → Calls Tryz.prog 24 #[.slice A xs.length c, .string (strOf f.p)] w' fun r w2 => ∃ (A' : Option Addr) (c' : Nat) (zs : List EvT), r = .returned (.slice A' zs.length c') ∧ RdK evTy w2 A' zs.length zs ∧ EvsR w2 zs (es.filter (fun e => decide (e.p = f.p))) ∧ Chg [] w' w2) := Lib.hid (fun w' hc => ktshelf_any w' A c xs es f.p (HA.out.chg (PC.out.trans hc) (by simp)) (HX.out.chg (PC.out.trans hc)) (by have := HN.out; omega) HS.out)
   have HB8 : Hid (∀ w', Chg [] wk w' → _) := Lib.hid (fun w' hc => BX.out w' (PC.out.trans hc))
   go_upto_region 8 with fail
   refine wp_region_held_drew (S := fun w' => Chg [] wk w') (by kernel_rfl) (Chg.refl [] wk).drew (fun hHeld => ?_)
   refine sy 0 45 rfl rfl ?_; try simp only [Act.put, sA, s0, s1]
   refine sy 1 46 rfl rfl ?_; try simp only [Act.put, sA, s0, s1]
   refine sy 2 47 rfl rfl ?_ (hy := by (intro w hSw; (try dsimp only at hSw); have hq := HB8.out _ hSw; obtain ⟨q0, q1, q2, q3, q4, q5, q6⟩ := hq; go_simp; try with_reducible rfl))
   try simp only [Act.put, sA, s0, s1]
   refine sy 4 49 rfl rfl ?_ (hy := by (intro w hSw; (try dsimp only at hSw); have hq := HB8.out _ hSw; obtain ⟨q0, q1, q2, q3, q4, q5, q6⟩ := hq; go_simp; try with_reducible rfl))
   try simp only [Act.put, sA, s0, s1]
   refine wpAnyH_ready (rs := [3]) (by kernel_rfl) (by simp) ?_; refine AllReadyH.cons rfl (fun K hK => ?_) AllReadyH.nil; replace hK := Lib.hid hK; go_simp
   refine (SHL.out _ hHeld).mono ?_
   rintro r w4 ⟨A4, c4, qs, rfl, hr, he, hc⟩
   have R4 := Lib.hid (And.intro hr he)
   have C4 := Lib.hid (hHeld.trans hc)
   clear hr he hc hHeld
   refine hK.out _ _ C4.out (fun hHeld => ?_)
   clear hK K; try simp only [Act.put, sA, s0, s1]
   refine wpAnyH_ready (rs := [5]) (by kernel_rfl) (by simp) ?_; refine AllReadyH.cons rfl (fun K hK => ?_) AllReadyH.nil; replace hK := Lib.hid hK; go_simp
   have q5 := ksputs_any w4 A4 c4 qs _ y f R4.out.1 R4.out.2 (by have a := R4.out.2.1; have b := List.length_filter_le (fun e => decide (e.p = f.p)) es; have := XL.out; have := HN.out; omega) (fun e he => HS.out e (List.mem_filter.1 he).1) (HY.out.chg (PC.out.trans C4.out)) HT.out
   rw [YP.out] at q5
   refine q5.mono ?_
   rintro r w5 ⟨Az, cz, zs, rfl, hr, he, hc⟩
   have ZR := Lib.hid hr
   have ES := Lib.hid he
   have CR := Lib.hid (C4.out.trans hc)
   clear hr he hc C4 R4 q5
   refine hK.out _ _ CR.out (fun hHeld => ?_)
   clear hK K; try simp only [Act.put, sA, s0, s1]
   refine sy 6 44 rfl rfl ?_; try simp only [Act.put, sA, s0, s1]
   refine sy 7 51 rfl rfl ?_; try simp only [Act.put, sA, s0, s1]
   refine sy 8 52 rfl rfl ?_; try simp only [Act.put, sA, s0, s1]
   refine sy 9 7 rfl rfl ?_; try simp only [Act.put, sA, s0, s1]
   refine sy 10 8 rfl rfl ?_; try simp only [Act.put, sA, s0, s1]
   refine wpAnyH_done (by kernel_rfl) ?_ _; clear hHeld SHL HB8
   have C5 := Lib.hid (PC.out.trans CR.out)
   clear CR PC
   have KF := Lib.hid (ks_shelf OK.out OF.out)
   rw [KF.out] at ES
   obtain ⟨SH, hSH⟩ : ∃ S, putE (atS es f.p) f = S := ⟨_, rfl⟩
   have HSH := Lib.hid hSH
   have ES2 : Hid (EvsR w5 zs SH) := Lib.hid (by rw [← hSH]; exact ES.out)
   have ZL : Hid (zs.length ≤ 1000) := Lib.hid (by have a := ES2.out.1; have b := puts_len [f] (atS es f.p); have d := List.length_filter_le (fun x => decide (x.p = f.p)) es; simp only [List.foldl_cons, List.foldl_nil, List.length_cons, List.length_nil] at b; rw [hSH] at b; unfold atS at b; have := HN.out; have := XL.out; omega)
   clear hSH ES KF
   have HX5 := Lib.hid (HX.out.chg C5.out)
   have SMF : Hid (∀ e ∈ putS es f, e.b.length ≤ 140737488351232 ∧ e.q.length ≤ 100000) := Lib.hid (fun e he => (putS_in he).elim (fun q => by rw [q]; exact ⟨HT.out.1.2.1, HT.out.2⟩) (fun q => ⟨(HS.out e q).1.2.1, (HS.out e q).2⟩))
   go_wp2
   go_loopw [9, 10, 11] (fun v9 v10 v11 wr => ∃ (k : Nat) (A2 : Option Addr) (d2 : Nat) (us : List EvT) (dn : Bool) (OUT : List EvP), k ≤ xs.length ∧ v11 = .int .i64 (k : Int) ∧ v9 = .slice A2 us.length d2 ∧ v10 = .bool dn ∧ Hid (us.length ≤ 1000 + k ∧ (dn = false → us.length ≤ k)) ∧ Hid ((es.take k).foldl (stepK f SH) (false, []) = (dn, OUT)) ∧ Hid (OwnK evTy wr A2 d2 us) ∧ Hid (EvsR w5 us OUT) ∧ Hid (∀ a, A2 = some a → w5.heap.size ≤ a.block) ∧ Hid (Chg [] w5 wr)) (fun _ _ v11 _ => xs.length - (RowKit.intOf v11).toNat)
   case atStart => exact ⟨0, none, 0, [], false, [], Nat.zero_le _, rfl, rfl, rfl, Lib.hid ⟨by simp, by simp⟩, Lib.hid rfl, OwnK.none_ _, Lib.hid (EvsR.nil _), Lib.hid (by simp), Chg.refl _ _⟩
   case round =>
    obtain ⟨k, A2, d2, us, dn, OUT, hk, rfl, rfl, rfl, UL, ST, RO, RU, RN, RC⟩ := hrel
    have j0 : (0 : Int) ≤ (k : Int) := by omega
    by_cases hlt : k < xs.length
    ·
     have j1 : (k : Int) < (xs.length : Int) := by omega
     have j3 : IntKind.i64.wrap ((k : Int) + 1) = (k : Int) + 1 := IntWalk.i64_in _ (by have := HN.out; omega)
     obtain ⟨g3, o3, eA, _⟩ := HA.out.line (by omega)
     have EA := Lib.hid eA
     obtain ⟨x, e, ex, ee, rx⟩ := HX5.out.at_ hlt
     have EX := Lib.hid ex
     have RX := Lib.hid rx
     have XP := Lib.hid rx.p
     have STEP : Hid ((es.take (k + 1)).foldl (stepK f SH) (false, []) = stepK f SH (dn, OUT) e) := Lib.hid (by rw [stepK_snoc ee, ST.out])
     have SE : Hid (EvSm e) := Lib.hid (HS.out e (List.mem_of_getElem? ee)).1
     clear ex ee rx ST
     rw [eA]
     clear eA
     have HC : Hid (∀ w', Chg [] w5 w' → w'.cell? ⟨g3, o3 + k * 7 + 2, none⟩ = some (.string (strOf e.p)) ∧ w'.cell? ⟨g0, 2, none⟩ = some (.string (strOf f.p))) := Lib.hid (fun w' hc => by
      have a := (evCells ((EA.out ▸ HA.out).chg (C5.out.trans hc) (by simp)) EX.out).2.2.1
      rw [XP.out] at a
      exact ⟨a, (BX.out _ (C5.out.trans hc)).2.2.1⟩)
     have KN := Lib.hid hk
     rcases hdn : dn with _ | _
     ·
      skip
      have ULF : Hid (us.length ≤ k) := Lib.hid (UL.out.2 hdn)
      rw [hdn] at STEP
      clear hdn UL
      have LS : Hid (∀ w', Chg [] w5 w' → Calls Tryz.prog 51 #[.string (strOf e.p), .string (strOf f.p)] w' fun r w2 => r = .returned (.bool (lessL e.p f.p)) ∧ Chg [] w' w2) := Lib.hid (fun w' _ => qhless_any w' e.p f.p SE.out.1 HT.out.1.1)
      rcases hl : lessL e.p f.p with _ | _
      ·
       skip
       go_upto_region 14 with fail
       have DR := Lib.hid (Chg.refl [] wr).drew
       refine wp_region_held_drew (S := fun w' => Chg [] w5 w') (by kernel_rfl) (RC.out.trans (Chg.refl [] wr).drew) (fun hHeld => ?_)
       obtain ⟨wd, hwd⟩ : ∃ wd, wr.drew = wd := ⟨_, rfl⟩
       rw [hwd] at hHeld DR ⊢
       clear hwd; refine sy 0 59 rfl rfl ?_; try simp only [Act.put, sA, s0, s1]
       refine sy 1 60 rfl rfl ?_; try simp only [Act.put, sA, s0, s1]
       refine sy 2 61 rfl rfl ?_; try simp only [Act.put, sA, s0, s1]
       refine sy 3 62 rfl rfl ?_; try simp only [Act.put, sA, s0, s1]
       refine sy 4 63 rfl rfl ?_; try simp only [Act.put, sA, s0, s1]
       refine sy 5 64 rfl rfl ?_; try simp only [Act.put, sA, s0, s1]
       refine sy 6 65 rfl rfl ?_; try simp only [Act.put, sA, s0, s1]
       refine sy 7 66 rfl rfl ?_ (hy := by (intro w hSw; (try dsimp only at hSw); have hq := HC.out _ hSw; obtain ⟨q0, q1⟩ := hq; go_simp; try with_reducible rfl))
       try simp only [Act.put, sA, s0, s1]
       refine sy 8 67 rfl rfl ?_; try simp only [Act.put, sA, s0, s1]
       refine sy 9 68 rfl rfl ?_ (hy := by (intro w hSw; (try dsimp only at hSw); have hq := HC.out _ hSw; obtain ⟨q0, q1⟩ := hq; go_simp; try with_reducible rfl))
       try simp only [Act.put, sA, s0, s1]
       refine wpAnyH_ready (rs := [10]) (by kernel_rfl) (by simp) ?_; refine AllReadyH.cons rfl (fun K hK => ?_) AllReadyH.nil; replace hK := Lib.hid hK; go_simp
       refine (qhless_any wd e.p f.p SE.out.1 HT.out.1.1).mono ?_
       rintro r w9 ⟨rfl, hc⟩
       rw [hl]
       replace RO := Lib.hid (RO.out.chg (DR.out.trans hc) (by simp))
       replace RC := Lib.hid (RC.out.trans (DR.out.trans hc))
       clear hc hHeld DR LS
       refine hK.out _ _ RC.out (fun hHeld => ?_)
       clear hK K; try simp only [Act.put, sA, s0, s1]
       refine sy 11 70 rfl rfl ?_; try simp only [Act.put, sA, s0, s1]
       refine sy 12 71 rfl rfl ?_; try simp only [Act.put, sA, s0, s1]
       refine wpAnyH_done (by kernel_rfl) ?_ _; clear hHeld
       have N5 : Hid ((us.length + zs.length) * 400 ≤ 140737488355327) := Lib.hid (by have := ULF.out; have := ZL.out; have := HN.out; omega)
       have ZR9 := Lib.hid (ZR.out.chg RC.out (by simp))
       go_upto_region 16 with (at_builtin; refine wpList_appK (R := evTy) rfl (.tmp 72) (.tmp 73) rfl rfl (A := A2) (n := us.length) (m := zs.length) (c := d2) (d := cz) (xs := us) (ys := zs) RO.out rfl rfl ZR9.out N5.out ?_; intro A8 c8 w8 o8 g8 e8)
       have F8 := Lib.hid (fresh_appE RN.out RC.out g8 e8)
       replace RO := Lib.hid o8
       replace RN : Hid (∀ a, A8 = some a → w5.heap.size ≤ a.block) := Lib.hid F8.out.1
       replace RC : Hid (Chg [] w5 w8) := Lib.hid F8.out.2
       replace RU := Lib.hid (RU.out.app ES2.out)
       obtain ⟨u8, hu8⟩ : ∃ u, us ++ zs = u := ⟨_, rfl⟩
       have NL8 : Hid (us.length + zs.length = u8.length) := Lib.hid (by rw [← hu8]; simp)
       rw [hu8] at RO RU
       have UL8 : Hid (u8.length ≤ k + 1000) := Lib.hid (by have := NL8.out; have := ULF.out; have := ZL.out; omega)
       clear o8 g8 e8 F8 ZR9 N5 hu8
       rw [NL8.out]
       clear NL8
       by_cases hp : e.p = f.p
       ·
        skip
        have SN : Hid ((es.take (k + 1)).foldl (stepK f SH) (false, []) = (true, (OUT ++ SH))) := Lib.hid (by rw [STEP.out]; unfold stepK doneK midK; first | (simp [hl, hp]; done) | (simp [hl, hp, less_self]; done) | (rw [hp, less_self] at hl; cases hl))
        have e4 : (e.p == f.p) = true := by rw [hp]; exact beq_self_eq_true _
        have e5 : ((strOf e.p == strOf f.p) : Bool) = true := by rw [hp]; show ((f.p.toArray == f.p.toArray) : Bool) = true; simp
        have e6 : ((strOf e.p != strOf f.p) : Bool) = false := by simp only [bne, e5]; rfl
        have e7 : (e.p != f.p) = false := by simp only [bne, e4]; rfl
        clear hp
        have HC9 : Hid (∀ w', Chg [] w8 w' → _) := Lib.hid (fun w' hc => HC.out w' (RC.out.trans hc))
        go_upto_region 17 with fail
        refine wp_region_held_drew (S := fun w' => Chg [] w8 w') (by kernel_rfl) (Chg.refl [] w8).drew (fun hHeld => ?_)
        refine sy 0 75 rfl rfl ?_; try simp only [Act.put, sA, s0, s1]
        refine sy 1 76 rfl rfl ?_; try simp only [Act.put, sA, s0, s1]
        refine sy 2 77 rfl rfl ?_; try simp only [Act.put, sA, s0, s1]
        refine sy 3 78 rfl rfl ?_; try simp only [Act.put, sA, s0, s1]
        refine sy 4 79 rfl rfl ?_ (hy := by (intro w hSw; (try dsimp only at hSw); have hq := HC9.out _ hSw; obtain ⟨q0, q1⟩ := hq; go_simp; try with_reducible rfl))
        try simp only [Act.put, sA, s0, s1]
        refine sy 5 80 rfl rfl ?_; try simp only [Act.put, sA, s0, s1]
        refine sy 6 81 rfl rfl ?_ (hy := by (intro w hSw; (try dsimp only at hSw); have hq := HC9.out _ hSw; obtain ⟨q0, q1⟩ := hq; go_simp; try with_reducible rfl))
        try simp only [Act.put, sA, s0, s1]
        refine sy 7 82 rfl rfl ?_; try simp only [Act.put, sA, s0, s1]
        refine wpAnyH_done (by kernel_rfl) ?_ _
        replace RO := Lib.hid (RO.out.chg hHeld (by simp))
        replace RC := Lib.hid (RC.out.trans hHeld)
        clear hHeld HC HC9 e4 e5 e6 e7; go_wp2; go_round
        case rel => exact ⟨k + 1, A8, c8, u8, true, (OUT ++ SH), by omega, by go_num, by first | rfl | (simp; done), rfl, Lib.hid (⟨by have := UL8.out; omega, fun q => by cases q⟩), SN, RO, RU, RN, RC⟩
        case measure => simp [RowKit.intOf]; omega
       ·
        skip
        have SN : Hid ((es.take (k + 1)).foldl (stepK f SH) (false, []) = (true, (OUT ++ SH) ++ [e])) := Lib.hid (by rw [STEP.out]; unfold stepK doneK midK; first | (simp [hl, hp]; done) | (simp [hl, hp, less_self]; done) | (rw [hp, less_self] at hl; cases hl))
        have e1 := strOf_ne hp
        have e3 := strOf_ne2 hp
        have e4 : (e.p == f.p) = false := beq_eq_false_iff_ne.2 hp
        have e6 : ((strOf e.p != strOf f.p) : Bool) = true := by simp only [bne, e1]; rfl
        have e7 : (e.p != f.p) = true := by simp only [bne, e4]; rfl
        clear hp
        have HC9 : Hid (∀ w', Chg [] w8 w' → _) := Lib.hid (fun w' hc => HC.out w' (RC.out.trans hc))
        go_upto_region 17 with fail
        refine wp_region_held_drew (S := fun w' => Chg [] w8 w') (by kernel_rfl) (Chg.refl [] w8).drew (fun hHeld => ?_)
        refine sy 0 75 rfl rfl ?_; try simp only [Act.put, sA, s0, s1]
        refine sy 1 76 rfl rfl ?_; try simp only [Act.put, sA, s0, s1]
        refine sy 2 77 rfl rfl ?_; try simp only [Act.put, sA, s0, s1]
        refine sy 3 78 rfl rfl ?_; try simp only [Act.put, sA, s0, s1]
        refine sy 4 79 rfl rfl ?_ (hy := by (intro w hSw; (try dsimp only at hSw); have hq := HC9.out _ hSw; obtain ⟨q0, q1⟩ := hq; go_simp; try with_reducible rfl))
        try simp only [Act.put, sA, s0, s1]
        refine sy 5 80 rfl rfl ?_; try simp only [Act.put, sA, s0, s1]
        refine sy 6 81 rfl rfl ?_ (hy := by (intro w hSw; (try dsimp only at hSw); have hq := HC9.out _ hSw; obtain ⟨q0, q1⟩ := hq; go_simp; try with_reducible rfl))
        try simp only [Act.put, sA, s0, s1]
        refine sy 7 82 rfl rfl ?_; try simp only [Act.put, sA, s0, s1]
        refine wpAnyH_done (by kernel_rfl) ?_ _
        replace RO := Lib.hid (RO.out.chg hHeld (by simp))
        replace RC := Lib.hid (RC.out.trans hHeld)
        clear hHeld HC HC9 e1 e3 e4 e6 e7
        obtain ⟨z0, z1, z2, z3, z4, z5, z6⟩ := evCells ((EA.out ▸ HA.out).chg (C5.out.trans RC.out) (by simp)) EX.out
        obtain ⟨wq, hwq⟩ : ∃ wq, w8.drew = wq := ⟨_, rfl⟩
        rw [hwq] at RO RC z0 z1 z2 z3 z4 z5 z6 ⊢
        clear hwq
        obtain ⟨v1, hw, cn, bn⟩ := news1 wq (.cells #[.int .i64 x.n, .int .i64 x.s, .string x.p, .int .i64 x.k, .int .i64 x.m, .slice x.A x.l x.c, .slice x.B x.bl x.bc] 30)
        have WN := Lib.hid hw
        have XR := Lib.hid (rd_oneEc bn)
        replace RO := Lib.hid (RO.out.chg cn (by simp))
        replace RC := Lib.hid (RC.out.trans cn)
        have N4 : Hid ((u8.length + 1) * 400 ≤ 140737488355327) := Lib.hid (by have := (UL8.out); have := HN.out; omega)
        clear hw cn bn
        go_wp2_with (at_builtin; rw [← WN.out]; refine wpList_appK (R := evTy) rfl (.tmp 83) (.tmp 88) rfl rfl (A := A8) (n := u8.length) (m := 1) (c := c8) (d := 1) (xs := u8) (ys := [x]) RO.out rfl rfl XR.out N4.out ?_; intro A9 c9 w9 o9 g9 e9)
        clear z0 z1 z2 z3 z4 z5 z6 WN XR N4
        have O9 := Lib.hid o9
        have F9 := Lib.hid (fresh_appE RN.out RC.out g9 e9)
        have RU9 := Lib.hid (RU.out.snoc RX.out)
        have NL : Hid (u8.length + 1 = (u8 ++ [x]).length) := Lib.hid (by simp <;> omega)
        clear o9 g9 e9
        rw [NL.out]
        go_wp2; go_round
        case rel => exact ⟨k + 1, A9, c9, u8 ++ [x], true, (OUT ++ SH) ++ [e], by omega, by go_num, by first | rfl | (simp; done), rfl, Lib.hid (⟨by have := UL8.out; simp; omega, fun q => by cases q⟩), SN, O9, RU9, Lib.hid F9.out.1, Lib.hid F9.out.2⟩
        case measure => simp [RowKit.intOf]; omega
      ·
       skip
       go_upto_region 14 with fail
       have DR := Lib.hid (Chg.refl [] wr).drew
       refine wp_region_held_drew (S := fun w' => Chg [] w5 w') (by kernel_rfl) (RC.out.trans (Chg.refl [] wr).drew) (fun hHeld => ?_)
       obtain ⟨wd, hwd⟩ : ∃ wd, wr.drew = wd := ⟨_, rfl⟩
       rw [hwd] at hHeld DR ⊢
       clear hwd; refine sy 0 59 rfl rfl ?_; try simp only [Act.put, sA, s0, s1]
       refine sy 1 60 rfl rfl ?_; try simp only [Act.put, sA, s0, s1]
       refine sy 2 61 rfl rfl ?_; try simp only [Act.put, sA, s0, s1]
       refine sy 3 62 rfl rfl ?_; try simp only [Act.put, sA, s0, s1]
       refine sy 4 63 rfl rfl ?_; try simp only [Act.put, sA, s0, s1]
       refine sy 5 64 rfl rfl ?_; try simp only [Act.put, sA, s0, s1]
       refine sy 6 65 rfl rfl ?_; try simp only [Act.put, sA, s0, s1]
       refine sy 7 66 rfl rfl ?_ (hy := by (intro w hSw; (try dsimp only at hSw); have hq := HC.out _ hSw; obtain ⟨q0, q1⟩ := hq; go_simp; try with_reducible rfl))
       try simp only [Act.put, sA, s0, s1]
       refine sy 8 67 rfl rfl ?_; try simp only [Act.put, sA, s0, s1]
       refine sy 9 68 rfl rfl ?_ (hy := by (intro w hSw; (try dsimp only at hSw); have hq := HC.out _ hSw; obtain ⟨q0, q1⟩ := hq; go_simp; try with_reducible rfl))
       try simp only [Act.put, sA, s0, s1]
       refine wpAnyH_ready (rs := [10]) (by kernel_rfl) (by simp) ?_; refine AllReadyH.cons rfl (fun K hK => ?_) AllReadyH.nil; replace hK := Lib.hid hK; go_simp
       refine (qhless_any wd e.p f.p SE.out.1 HT.out.1.1).mono ?_
       rintro r w9 ⟨rfl, hc⟩
       rw [hl]
       replace RO := Lib.hid (RO.out.chg (DR.out.trans hc) (by simp))
       replace RC := Lib.hid (RC.out.trans (DR.out.trans hc))
       clear hc hHeld DR LS
       refine hK.out _ _ RC.out (fun hHeld => ?_)
       clear hK K; try simp only [Act.put, sA, s0, s1]
       refine sy 11 70 rfl rfl ?_; try simp only [Act.put, sA, s0, s1]
       refine sy 12 71 rfl rfl ?_; try simp only [Act.put, sA, s0, s1]
       refine wpAnyH_done (by kernel_rfl) ?_ _; clear hHeld; skip
       by_cases hp : e.p = f.p
       ·
        skip
        have SN : Hid ((es.take (k + 1)).foldl (stepK f SH) (false, []) = (false, OUT)) := Lib.hid (by rw [STEP.out]; unfold stepK doneK midK; first | (simp [hl, hp]; done) | (simp [hl, hp, less_self]; done) | (rw [hp, less_self] at hl; cases hl))
        have e4 : (e.p == f.p) = true := by rw [hp]; exact beq_self_eq_true _
        have e5 : ((strOf e.p == strOf f.p) : Bool) = true := by rw [hp]; show ((f.p.toArray == f.p.toArray) : Bool) = true; simp
        have e6 : ((strOf e.p != strOf f.p) : Bool) = false := by simp only [bne, e5]; rfl
        have e7 : (e.p != f.p) = false := by simp only [bne, e4]; rfl
        clear hp
        have HC9 : Hid (∀ w', Chg [] w9 w' → _) := Lib.hid (fun w' hc => HC.out w' (RC.out.trans hc))
        go_upto_region 17 with fail
        refine wp_region_held_drew (S := fun w' => Chg [] w9 w') (by kernel_rfl) (Chg.refl [] w9).drew (fun hHeld => ?_)
        refine sy 0 75 rfl rfl ?_; try simp only [Act.put, sA, s0, s1]
        refine sy 1 76 rfl rfl ?_; try simp only [Act.put, sA, s0, s1]
        refine sy 2 77 rfl rfl ?_; try simp only [Act.put, sA, s0, s1]
        refine sy 3 78 rfl rfl ?_; try simp only [Act.put, sA, s0, s1]
        refine sy 4 79 rfl rfl ?_ (hy := by (intro w hSw; (try dsimp only at hSw); have hq := HC9.out _ hSw; obtain ⟨q0, q1⟩ := hq; go_simp; try with_reducible rfl))
        try simp only [Act.put, sA, s0, s1]
        refine sy 5 80 rfl rfl ?_; try simp only [Act.put, sA, s0, s1]
        refine sy 6 81 rfl rfl ?_ (hy := by (intro w hSw; (try dsimp only at hSw); have hq := HC9.out _ hSw; obtain ⟨q0, q1⟩ := hq; go_simp; try with_reducible rfl))
        try simp only [Act.put, sA, s0, s1]
        refine sy 7 82 rfl rfl ?_; try simp only [Act.put, sA, s0, s1]
        refine wpAnyH_done (by kernel_rfl) ?_ _
        replace RO := Lib.hid (RO.out.chg hHeld (by simp))
        replace RC := Lib.hid (RC.out.trans hHeld)
        clear hHeld HC HC9 e4 e5 e6 e7; go_wp2; go_round
        case rel => exact ⟨k + 1, A2, d2, us, false, OUT, by omega, by go_num, by first | rfl | (simp; done), rfl, Lib.hid (⟨by have := ULF.out; omega, fun _ => by have := ULF.out; omega⟩), SN, RO, RU, RN, RC⟩
        case measure => simp [RowKit.intOf]; omega
       ·
        skip
        have SN : Hid ((es.take (k + 1)).foldl (stepK f SH) (false, []) = (false, OUT ++ [e])) := Lib.hid (by rw [STEP.out]; unfold stepK doneK midK; first | (simp [hl, hp]; done) | (simp [hl, hp, less_self]; done) | (rw [hp, less_self] at hl; cases hl))
        have e1 := strOf_ne hp
        have e3 := strOf_ne2 hp
        have e4 : (e.p == f.p) = false := beq_eq_false_iff_ne.2 hp
        have e6 : ((strOf e.p != strOf f.p) : Bool) = true := by simp only [bne, e1]; rfl
        have e7 : (e.p != f.p) = true := by simp only [bne, e4]; rfl
        clear hp
        have HC9 : Hid (∀ w', Chg [] w9 w' → _) := Lib.hid (fun w' hc => HC.out w' (RC.out.trans hc))
        go_upto_region 17 with fail
        refine wp_region_held_drew (S := fun w' => Chg [] w9 w') (by kernel_rfl) (Chg.refl [] w9).drew (fun hHeld => ?_)
        refine sy 0 75 rfl rfl ?_; try simp only [Act.put, sA, s0, s1]
        refine sy 1 76 rfl rfl ?_; try simp only [Act.put, sA, s0, s1]
        refine sy 2 77 rfl rfl ?_; try simp only [Act.put, sA, s0, s1]
        refine sy 3 78 rfl rfl ?_; try simp only [Act.put, sA, s0, s1]
        refine sy 4 79 rfl rfl ?_ (hy := by (intro w hSw; (try dsimp only at hSw); have hq := HC9.out _ hSw; obtain ⟨q0, q1⟩ := hq; go_simp; try with_reducible rfl))
        try simp only [Act.put, sA, s0, s1]
        refine sy 5 80 rfl rfl ?_; try simp only [Act.put, sA, s0, s1]
        refine sy 6 81 rfl rfl ?_ (hy := by (intro w hSw; (try dsimp only at hSw); have hq := HC9.out _ hSw; obtain ⟨q0, q1⟩ := hq; go_simp; try with_reducible rfl))
        try simp only [Act.put, sA, s0, s1]
        refine sy 7 82 rfl rfl ?_; try simp only [Act.put, sA, s0, s1]
        refine wpAnyH_done (by kernel_rfl) ?_ _
        replace RO := Lib.hid (RO.out.chg hHeld (by simp))
        replace RC := Lib.hid (RC.out.trans hHeld)
        clear hHeld HC HC9 e1 e3 e4 e6 e7
        obtain ⟨z0, z1, z2, z3, z4, z5, z6⟩ := evCells ((EA.out ▸ HA.out).chg (C5.out.trans RC.out) (by simp)) EX.out
        obtain ⟨wq, hwq⟩ : ∃ wq, w9.drew = wq := ⟨_, rfl⟩
        rw [hwq] at RO RC z0 z1 z2 z3 z4 z5 z6 ⊢
        clear hwq
        obtain ⟨v1, hw, cn, bn⟩ := news1 wq (.cells #[.int .i64 x.n, .int .i64 x.s, .string x.p, .int .i64 x.k, .int .i64 x.m, .slice x.A x.l x.c, .slice x.B x.bl x.bc] 30)
        have WN := Lib.hid hw
        have XR := Lib.hid (rd_oneEc bn)
        replace RO := Lib.hid (RO.out.chg cn (by simp))
        replace RC := Lib.hid (RC.out.trans cn)
        have N4 : Hid ((us.length + 1) * 400 ≤ 140737488355327) := Lib.hid (by have := (ULF.out); have := HN.out; omega)
        clear hw cn bn
        go_wp2_with (at_builtin; rw [← WN.out]; refine wpList_appK (R := evTy) rfl (.tmp 83) (.tmp 88) rfl rfl (A := A2) (n := us.length) (m := 1) (c := d2) (d := 1) (xs := us) (ys := [x]) RO.out rfl rfl XR.out N4.out ?_; intro A9 c9 w9 o9 g9 e9)
        clear z0 z1 z2 z3 z4 z5 z6 WN XR N4
        have O9 := Lib.hid o9
        have F9 := Lib.hid (fresh_appE RN.out RC.out g9 e9)
        have RU9 := Lib.hid (RU.out.snoc RX.out)
        have NL : Hid (us.length + 1 = (us ++ [x]).length) := Lib.hid (by simp <;> omega)
        clear o9 g9 e9
        rw [NL.out]
        go_wp2; go_round
        case rel => exact ⟨k + 1, A9, c9, us ++ [x], false, OUT ++ [e], by omega, by go_num, by first | rfl | (simp; done), rfl, Lib.hid (⟨by have := ULF.out; simp; omega, fun _ => by have := ULF.out; simp; omega⟩), SN, O9, RU9, Lib.hid F9.out.1, Lib.hid F9.out.2⟩
        case measure => simp [RowKit.intOf]; omega
     ·
      skip
      have ULT : Hid (us.length ≤ 1000 + k) := Lib.hid UL.out.1
      rw [hdn] at STEP
      clear hdn UL
      go_upto_region 14 with fail
      have DR := Lib.hid (Chg.refl [] wr).drew
      refine wp_region_held_drew (S := fun w' => Chg [] w5 w') (by kernel_rfl) (RC.out.trans (Chg.refl [] wr).drew) (fun hHeld => ?_)
      obtain ⟨wd, hwd⟩ : ∃ wd, wr.drew = wd := ⟨_, rfl⟩
      rw [hwd] at hHeld DR ⊢
      clear hwd; refine sy 0 59 rfl rfl ?_; try simp only [Act.put, sA, s0, s1]
      refine sy 1 60 rfl rfl ?_; try simp only [Act.put, sA, s0, s1]
      refine sy 2 61 rfl rfl ?_; try simp only [Act.put, sA, s0, s1]
      refine sn 3 62 rfl rfl ?_; try simp only [Act.put, sA, s0, s1]
      refine sn 4 63 rfl rfl ?_; try simp only [Act.put, sA, s0, s1]
      refine sn 5 64 rfl rfl ?_; try simp only [Act.put, sA, s0, s1]
      refine sn 6 65 rfl rfl ?_; try simp only [Act.put, sA, s0, s1]
      refine sn 7 66 rfl rfl ?_; try simp only [Act.put, sA, s0, s1]
      refine sn 8 67 rfl rfl ?_; try simp only [Act.put, sA, s0, s1]
      refine sn 9 68 rfl rfl ?_; try simp only [Act.put, sA, s0, s1]
      refine sn 10 69 rfl rfl ?_; try simp only [Act.put, sA, s0, s1]
      refine sn 11 70 rfl rfl ?_; try simp only [Act.put, sA, s0, s1]
      refine sy 12 71 rfl rfl ?_; try simp only [Act.put, sA, s0, s1]
      refine wpAnyH_done (by kernel_rfl) ?_ _
      replace RO := Lib.hid (RO.out.chg DR.out (by simp))
      replace RC := Lib.hid (RC.out.trans DR.out)
      clear hHeld DR
      by_cases hp : e.p = f.p
      ·
       skip
       have SN : Hid ((es.take (k + 1)).foldl (stepK f SH) (false, []) = (true, OUT)) := Lib.hid (by rw [STEP.out]; unfold stepK doneK midK; first | (simp [hp]; done) | (simp [hl, hp, less_self]; done) | (rw [hp, less_self] at hl; cases hl))
       have e4 : (e.p == f.p) = true := by rw [hp]; exact beq_self_eq_true _
       have e5 : ((strOf e.p == strOf f.p) : Bool) = true := by rw [hp]; show ((f.p.toArray == f.p.toArray) : Bool) = true; simp
       have e6 : ((strOf e.p != strOf f.p) : Bool) = false := by simp only [bne, e5]; rfl
       have e7 : (e.p != f.p) = false := by simp only [bne, e4]; rfl
       clear hp
       have HC9 : Hid (∀ w', Chg [] wd w' → _) := Lib.hid (fun w' hc => HC.out w' (RC.out.trans hc))
       go_upto_region 17 with fail
       refine wp_region_held_drew (S := fun w' => Chg [] wd w') (by kernel_rfl) (Chg.refl [] wd).drew (fun hHeld => ?_)
       refine sy 0 75 rfl rfl ?_; try simp only [Act.put, sA, s0, s1]
       refine sy 1 76 rfl rfl ?_; try simp only [Act.put, sA, s0, s1]
       refine sy 2 77 rfl rfl ?_; try simp only [Act.put, sA, s0, s1]
       refine sy 3 78 rfl rfl ?_; try simp only [Act.put, sA, s0, s1]
       refine sy 4 79 rfl rfl ?_ (hy := by (intro w hSw; (try dsimp only at hSw); have hq := HC9.out _ hSw; obtain ⟨q0, q1⟩ := hq; go_simp; try with_reducible rfl))
       try simp only [Act.put, sA, s0, s1]
       refine sy 5 80 rfl rfl ?_; try simp only [Act.put, sA, s0, s1]
       refine sy 6 81 rfl rfl ?_ (hy := by (intro w hSw; (try dsimp only at hSw); have hq := HC9.out _ hSw; obtain ⟨q0, q1⟩ := hq; go_simp; try with_reducible rfl))
       try simp only [Act.put, sA, s0, s1]
       refine sy 7 82 rfl rfl ?_; try simp only [Act.put, sA, s0, s1]
       refine wpAnyH_done (by kernel_rfl) ?_ _
       replace RO := Lib.hid (RO.out.chg hHeld (by simp))
       replace RC := Lib.hid (RC.out.trans hHeld)
       clear hHeld HC HC9 e4 e5 e6 e7; go_wp2; go_round
       case rel => exact ⟨k + 1, A2, d2, us, true, OUT, by omega, by go_num, by first | rfl | (simp; done), rfl, Lib.hid (⟨by have := ULT.out; omega, fun q => by cases q⟩), SN, RO, RU, RN, RC⟩
       case measure => simp [RowKit.intOf]; omega
      ·
       skip
       have SN : Hid ((es.take (k + 1)).foldl (stepK f SH) (false, []) = (true, OUT ++ [e])) := Lib.hid (by rw [STEP.out]; unfold stepK doneK midK; first | (simp [hp]; done) | (simp [hl, hp, less_self]; done) | (rw [hp, less_self] at hl; cases hl))
       have e1 := strOf_ne hp
       have e3 := strOf_ne2 hp
       have e4 : (e.p == f.p) = false := beq_eq_false_iff_ne.2 hp
       have e6 : ((strOf e.p != strOf f.p) : Bool) = true := by simp only [bne, e1]; rfl
       have e7 : (e.p != f.p) = true := by simp only [bne, e4]; rfl
       clear hp
       have HC9 : Hid (∀ w', Chg [] wd w' → _) := Lib.hid (fun w' hc => HC.out w' (RC.out.trans hc))
       go_upto_region 17 with fail
       refine wp_region_held_drew (S := fun w' => Chg [] wd w') (by kernel_rfl) (Chg.refl [] wd).drew (fun hHeld => ?_)
       refine sy 0 75 rfl rfl ?_; try simp only [Act.put, sA, s0, s1]
       refine sy 1 76 rfl rfl ?_; try simp only [Act.put, sA, s0, s1]
       refine sy 2 77 rfl rfl ?_; try simp only [Act.put, sA, s0, s1]
       refine sy 3 78 rfl rfl ?_; try simp only [Act.put, sA, s0, s1]
       refine sy 4 79 rfl rfl ?_ (hy := by (intro w hSw; (try dsimp only at hSw); have hq := HC9.out _ hSw; obtain ⟨q0, q1⟩ := hq; go_simp; try with_reducible rfl))
       try simp only [Act.put, sA, s0, s1]
       refine sy 5 80 rfl rfl ?_; try simp only [Act.put, sA, s0, s1]
       refine sy 6 81 rfl rfl ?_ (hy := by (intro w hSw; (try dsimp only at hSw); have hq := HC9.out _ hSw; obtain ⟨q0, q1⟩ := hq; go_simp; try with_reducible rfl))
       try simp only [Act.put, sA, s0, s1]
       refine sy 7 82 rfl rfl ?_; try simp only [Act.put, sA, s0, s1]
       refine wpAnyH_done (by kernel_rfl) ?_ _
       replace RO := Lib.hid (RO.out.chg hHeld (by simp))
       replace RC := Lib.hid (RC.out.trans hHeld)
       clear hHeld HC HC9 e1 e3 e4 e6 e7
       obtain ⟨z0, z1, z2, z3, z4, z5, z6⟩ := evCells ((EA.out ▸ HA.out).chg (C5.out.trans RC.out) (by simp)) EX.out
       obtain ⟨wq, hwq⟩ : ∃ wq, wd.drew = wq := ⟨_, rfl⟩
       rw [hwq] at RO RC z0 z1 z2 z3 z4 z5 z6 ⊢
       clear hwq
       obtain ⟨v1, hw, cn, bn⟩ := news1 wq (.cells #[.int .i64 x.n, .int .i64 x.s, .string x.p, .int .i64 x.k, .int .i64 x.m, .slice x.A x.l x.c, .slice x.B x.bl x.bc] 30)
       have WN := Lib.hid hw
       have XR := Lib.hid (rd_oneEc bn)
       replace RO := Lib.hid (RO.out.chg cn (by simp))
       replace RC := Lib.hid (RC.out.trans cn)
       have N4 : Hid ((us.length + 1) * 400 ≤ 140737488355327) := Lib.hid (by have := (ULT.out); have := HN.out; omega)
       clear hw cn bn
       go_wp2_with (at_builtin; rw [← WN.out]; refine wpList_appK (R := evTy) rfl (.tmp 83) (.tmp 88) rfl rfl (A := A2) (n := us.length) (m := 1) (c := d2) (d := 1) (xs := us) (ys := [x]) RO.out rfl rfl XR.out N4.out ?_; intro A9 c9 w9 o9 g9 e9)
       clear z0 z1 z2 z3 z4 z5 z6 WN XR N4
       have O9 := Lib.hid o9
       have F9 := Lib.hid (fresh_appE RN.out RC.out g9 e9)
       have RU9 := Lib.hid (RU.out.snoc RX.out)
       have NL : Hid (us.length + 1 = (us ++ [x]).length) := Lib.hid (by simp <;> omega)
       clear o9 g9 e9
       rw [NL.out]
       go_wp2; go_round
       case rel => exact ⟨k + 1, A9, c9, us ++ [x], true, OUT ++ [e], by omega, by go_num, by first | rfl | (simp; done), rfl, Lib.hid (⟨by have := ULT.out; simp; omega, fun q => by cases q⟩), SN, O9, RU9, Lib.hid F9.out.1, Lib.hid F9.out.2⟩
       case measure => simp [RowKit.intOf]; omega
    ·
     obtain rfl : k = xs.length := by omega
     have j1 : ¬ (xs.length : Int) < (xs.length : Int) := by omega
     have EF : es.take xs.length = es := by rw [HX.out.1, List.take_length]
     rw [EF] at ST
     clear EF
     have FIN : Hid (endK SH (dn, OUT) = putS es f) := Lib.hid (by rw [← ST.out, ← HSH.out]; exact ktput_end OK.out)
     clear ST
     rcases dn with _ | _
     ·
      have ULF : Hid (us.length ≤ 1000) := Lib.hid (by have := UL.out.2 rfl; have := HN.out; omega)
      have FE : Hid (OUT ++ SH = putS es f) := Lib.hid (by rw [← FIN.out]; rfl)
      have N5 : Hid ((us.length + zs.length) * 400 ≤ 140737488355327) := Lib.hid (by have := ULF.out; have := ZL.out; omega)
      have ZR9 := Lib.hid (ZR.out.chg RC.out (by simp))
      go_upto_region 21 with (at_builtin; refine wpList_appK (R := evTy) rfl (.tmp 92) (.tmp 93) rfl rfl (A := A2) (n := us.length) (m := zs.length) (c := d2) (d := cz) (xs := us) (ys := zs) RO.out rfl rfl ZR9.out N5.out ?_; intro A8 c8 w8 o8 g8 e8)
      have F8 := Lib.hid (fresh_appE RN.out RC.out g8 e8)
      have RU8 := RU.out.app ES2.out
      obtain ⟨u8, hu8⟩ : ∃ u, us ++ zs = u := ⟨_, rfl⟩
      have NL8 : Hid (us.length + zs.length = u8.length) := Lib.hid (by rw [← hu8]; simp)
      rw [hu8] at o8 RU8
      have OW := ktown_any w8 A8 c8 u8 (OUT ++ SH) o8.reads (RU8.chg F8.out.2) (by have := NL8.out; have := ULF.out; have := ZL.out; omega) (by rw [FE.out]; exact SMF.out)
      rw [FE.out] at OW
      have OW2 := Lib.hid OW
      clear o8 g8 e8 ZR9 N5 OW RU8 hu8
      rw [NL8.out]
      go_wp2_with fail
      refine OW2.out.mono ?_
      rintro r w9 ⟨A9, c9, vs, rfl, hr, he, hc⟩
      have P9 := Lib.hid (And.intro hr (And.intro he (C0.out.trans (C5.out.trans (F8.out.2.trans hc)))))
      clear hr he hc OW2; go_wp2; go_ret2
      rw [ER.out]
      exact ⟨A9, c9, vs, rfl, P9.out.1, P9.out.2.1, P9.out.2.2⟩
     ·
      have ULT : Hid (us.length ≤ 2000) := Lib.hid (by have := UL.out.1; have := HN.out; omega)
      have FE : Hid (OUT = putS es f) := Lib.hid (by rw [← FIN.out]; rfl)
      have OW := ktown_any wr A2 d2 us OUT RO.out.reads (RU.out.chg RC.out) (by have := ULT.out; omega) (by rw [FE.out]; exact SMF.out)
      rw [FE.out] at OW
      have OW2 := Lib.hid OW
      clear OW; go_wp2_with fail
      refine OW2.out.mono ?_
      rintro r w9 ⟨A9, c9, vs, rfl, hr, he, hc⟩
      have P9 := Lib.hid (And.intro hr (And.intro he (C0.out.trans (C5.out.trans (RC.out.trans hc)))))
      clear hr he hc OW2; go_wp2; go_ret2
      rw [ER.out]
      exact ⟨A9, c9, vs, rfl, P9.out.1, P9.out.2.1, P9.out.2.2⟩
end
section
open Go.RowKit Go.Lib


set_option maxRecDepth 100000 in
set_option maxHeartbeats 16000000 in
theorem ktjoin_any (w : World) (A B : Option Addr) (c d : Nat) (xs ys : List EvT) (es fs : List EvP) (h : RdK evTy w A xs.length xs) (h' : RdK evTy w B ys.length ys) (hx : EvsR w xs es) (hy : EvsR w ys fs) (hn : xs.length + ys.length ≤ 700) (hs : ∀ e ∈ es, EvSm e ∧ e.q.length ≤ 100000) (ht : ∀ e ∈ fs, EvSm e ∧ e.q.length ≤ 100000) :
  Calls Tryz.prog 14 #[.slice A xs.length c, .slice B ys.length d] w fun r w' => ∃ (A' : Option Addr) (c' : Nat) (zs : List EvT), r = .returned (.tuple #[.slice A' zs.length c', .int .i64 (stJoin es fs).1]) ∧ RdK evTy w' A' zs.length zs ∧ EvsR w' zs (stJoin es fs).2 ∧ Chg [] w w' := by
 obtain ⟨R, hR⟩ : ∃ R, stJoin es fs = R := ⟨_, rfl⟩
 rw [hR]
 have HR := Lib.hid hR
 have HA := Lib.hid h
 have HB := Lib.hid h'
 have HX := Lib.hid hx
 have HY := Lib.hid hy
 have HN := Lib.hid hn
 have HS := Lib.hid hs
 have HT := Lib.hid ht
 clear h h' hx hy hn hs ht hR
 have NO2 : Hid (¬ (StOk es ∧ StOk fs) → R = (2, [])) := Lib.hid (fun q => by rw [← HR.out]; unfold stJoin; rw [if_neg q])
 go_enter Tryz.func14, Tryz.ntmps14
 go_wp2_with fail
 refine (ktcheck_any w A c xs es HA.out HX.out (by have := HN.out; omega) HS.out).mono ?_
 rintro r w1 ⟨rfl, hc⟩
 have C1 := Lib.hid hc
 clear hc
 rcases stE_two es with e1 | e1
 rotate_left
 ·
  have ER := NO2.out (fun q => by rw [stE_zero.2 q.1] at e1; cases e1)
  subst ER
  rw [e1]
  clear e1 NO2 HR; go_wp2; go_ret2
  exact ⟨none, 0, [], rfl, RdK.nil _ _, EvsR.nil _, C1.out⟩
 have SA := Lib.hid (stE_zero.1 e1)
 rw [e1]
 clear e1; go_wp2_with fail
 refine (ktcheck_any w1 B d ys fs (HB.out.chg C1.out (by simp)) (HY.out.chg C1.out) (by have := HN.out; omega) HT.out).mono ?_
 rintro r w2 ⟨rfl, hc⟩
 have C2 := Lib.hid (C1.out.trans hc)
 clear hc C1
 rcases stE_two fs with e1 | e1
 rotate_left
 ·
  have ER := NO2.out (fun q => by rw [stE_zero.2 q.2] at e1; cases e1)
  subst ER
  rw [e1]
  clear e1 NO2 HR; go_wp2; go_ret2
  exact ⟨none, 0, [], rfl, RdK.nil _ _, EvsR.nil _, C2.out⟩
 have SB := Lib.hid (stE_zero.1 e1)
 have RF : Hid (R = stFold es fs) := Lib.hid (by rw [← HR.out]; unfold stJoin; rw [if_pos ⟨SA.out, SB.out⟩])
 rw [e1]
 clear e1 NO2 HR
 have OW := Lib.hid (ktown_any w2 A c xs es (HA.out.chg C2.out (by simp)) (HX.out.chg C2.out) (by have := HN.out; omega) (fun e he => ⟨(HS.out e he).1.2.1, (HS.out e he).2⟩))
 go_wp2_with fail
 refine OW.out.mono ?_
 rintro r w3 ⟨A0, c0, zs0, rfl, hr, he, hc⟩
 have R0 := Lib.hid hr
 have E0 := Lib.hid he
 have C3 := Lib.hid (C2.out.trans hc)
 clear hr he hc OW C2; go_wp2
 go_loopw [6, 7] (fun v6 v7 wr => ∃ (k : Nat) (A1 : Option Addr) (d1 : Nat) (zs : List EvT) (cs : List EvP), k ≤ ys.length ∧ v7 = .int .i64 (k : Int) ∧ v6 = .slice A1 zs.length d1 ∧ Hid (R = stFold cs (fs.drop k) ∧ StOk cs ∧ cs.length ≤ es.length + k ∧ ∀ e ∈ cs, EvSm e ∧ e.q.length ≤ 100000) ∧ Hid (RdK evTy wr A1 zs.length zs) ∧ Hid (EvsR wr zs cs) ∧ Hid (Chg [] w wr)) (fun _ v7 _ => ys.length - (RowKit.intOf v7).toNat)
 case atStart => exact ⟨0, A0, c0, zs0, es, Nat.zero_le _, rfl, rfl, Lib.hid ⟨RF.out, SA.out, by omega, HS.out⟩, R0, E0, C3⟩
 case round =>
  obtain ⟨k, A1, d1, zs, cs, hk, rfl, rfl, CS, RZ, EZ, PC⟩ := hrel
  have j0 : (0 : Int) ≤ (k : Int) := by omega
  by_cases hlt : k < ys.length
  ·
   have j1 : (k : Int) < (ys.length : Int) := by omega
   have j3 : IntKind.i64.wrap ((k : Int) + 1) = (k : Int) + 1 := IntWalk.i64_in _ (by have := HN.out; omega)
   obtain ⟨g3, o3, eA, _⟩ := HB.out.line (by omega)
   subst eA
   obtain ⟨x, e, ex, ee, rx⟩ := HY.out.at_ hlt
   obtain ⟨z0, z1, z2, z3, z4, z5, z6⟩ := evCells (HB.out.chg PC.out (by simp)) ex
   have EE := Lib.hid ee
   have RX1 := Lib.hid rx
   have EM := Lib.hid (List.mem_of_getElem? ee)
   clear ex ee rx
   have ST : Hid (stPut cs e = if elseE cs e = true then (7, []) else (0, putS cs e)) := Lib.hid (by unfold stPut; rw [if_neg (fun q => q ⟨CS.out.2.1, stOk_chk SB.out e EM.out⟩)])
   have CALL := ktput_any wr A1 d1 zs cs x e RZ.out EZ.out (by have a := EZ.out.1; have b := CS.out.2.2.1; have d := HX.out.1; have := HN.out; omega) CS.out.2.2.2 (RX1.out.chg PC.out) (HT.out e EM.out)
   rw [ST.out] at CALL
   have CALL2 := Lib.hid CALL
   clear CALL
   have DK : Hid (fs.drop k = e :: fs.drop (k + 1)) := Lib.hid (by
    obtain ⟨l, q⟩ := List.getElem?_eq_some_iff.1 EE.out
    rw [List.drop_eq_getElem_cons l, q])
   go_wp2_with fail; clear z0 z1 z2 z3 z4 z5 z6
   refine CALL2.out.mono ?_
   rintro r w7 ⟨A7, c7, us, rfl, hr, he, hc⟩
   replace PC := Lib.hid (PC.out.trans hc)
   have R7 := Lib.hid hr
   clear hr hc CALL2 RZ EZ
   rcases hel : elseE cs e with _ | _
   ·
    have CS1 : Hid (R = stFold (putS cs e) (fs.drop (k + 1)) ∧ StOk (putS cs e) ∧ (putS cs e).length ≤ es.length + (k + 1) ∧ ∀ x ∈ putS cs e, EvSm x ∧ x.q.length ≤ 100000) := Lib.hid ⟨by
      have q := CS.out.1
      rw [DK.out] at q
      unfold stFold at q
      rwa [hel, if_neg (by decide)] at q, stOk_put CS.out.2.1 (stOk_chk SB.out e EM.out) hel, by have a := elseE_len cs e; have b := CS.out.2.2.1; omega, fun x hx => by
      rcases putS_in hx with q | q
      ·
       rw [q]; exact HT.out e EM.out
      ·
       exact CS.out.2.2.2 x q⟩
    rw [hel, if_neg (by decide : ¬ (false = true))] at he
    rw [if_neg (by decide : ¬ (false = true))]
    have E7 : Hid (EvsR w7 us (putS cs e)) := Lib.hid (by simpa using he)
    clear he hel; go_wp2; go_round
    case rel => exact ⟨k + 1, A7, c7, us, putS cs e, by omega, by go_num, rfl, CS1, R7, E7, PC⟩
    case measure => simp [RowKit.intOf]; omega
   ·
    have ER : R = (7, []) := by
     have q := CS.out.1
     rw [DK.out] at q
     unfold stFold at q
     rwa [if_pos hel] at q
    rw [if_pos (rfl : true = true)]
    clear he hel CS RF; subst ER; go_wp2; go_ret2
    exact ⟨none, 0, [], rfl, RdK.nil _ _, EvsR.nil _, PC.out⟩
  ·
   obtain rfl : k = ys.length := by omega
   have j1 : ¬ (ys.length : Int) < (ys.length : Int) := by omega
   have ER : R = (0, cs) := by
    have q := CS.out.1
    rw [HY.out.1, List.drop_length] at q
    exact q
   clear RF; subst ER; go_wp2; go_ret2
   exact ⟨A1, d1, zs, rfl, RZ.out, EZ.out, PC.out⟩
end
section
open Go.RowKit

theorem range_ownm {α : Type} {P : Program} {n : Nat} {g : Operand} {ps : Array Tmp} {assign body : Code} {Q : Exit → Act → World → Prop} {a : Act} {w : World} {gf : Nat} {lb : Array Value}
  (hg : a.eval g = .func (.func gf) #[] lb) (eg : ∀ args w, (callFunc gf args).run P w = .ok (.enter gf args) w) {encs : α → Array Value} {S Sp : List α → Prop} {Ex : List α → α → World → Prop} {Bd : List α → Prop} {n₁ : Nat} (hn₁ : n₁ ≤ w.heap.size) {Si T : List Nat} (hSi : ∀ x ∈ Si, x < w.heap.size)
  (hseq : ∀ (l : Nat) (J Jx : List α → World → Prop) (W : World), Below w.heap.size w W → (∀ pre A B, J pre A → Chg Si A B → J pre B) → (∀ pre A B, Jx pre A → Chg Si A B → Jx pre B) → (∀ pre A, J pre A → Bd pre) →
   (∀ pre x W1, J pre W1 → Ex pre x W1 → YieldAt Fence.wide (n - 1 - 1) P l (encs x) W1 fun e W' => (e = .returned (.bool true) ∧ J (pre ++ [x]) W' ∧ Kpt n₁ T W1 W') ∨ (e = .returned (.bool false) ∧ Jx (pre ++ [x]) W')) →
   J [] W → CallsIn Fence.wide (n - 1) P gf (#[.func (.yield l) #[] #[]] ++ lb) W fun e W' => (∃ v, e = .returned v) ∧ ((∃ xs, S xs ∧ J xs W') ∨ ∃ xs, Sp xs ∧ Jx xs W'))
  (hps : ∀ x, (encs x).size = ps.size) (I : List α → World → Prop) (Ix : Code → List α → World → Prop) (hI : ∀ pre A B, I pre A → Chg Si A B → I pre B) (hIx : ∀ c pre A B, Ix c pre A → Chg Si A B → Ix c pre B)
  (hIl : ∀ pre W l o o', W.heap[l]? = some o → o.isCells = false → l = w.heap.size + 1 → I pre W → I pre (W.putObj l o')) (hIxl : ∀ c pre W l o o', W.heap[l]? = some o → o.isCells = false → l = w.heap.size + 1 → Ix c pre W → Ix c pre (W.putObj l o')) (hBd : ∀ pre A, I pre A → Bd pre) (h0 : I [] w)
  (hEx : ∀ pre x W l o o', W.heap[l]? = some o → o.isCells = false → Ex pre x W → Ex pre x (W.putObj l o')) (a₁ : α → Act)
  (hassign : ∀ (l : Nat) (x : α) (W : World) (K : Act → World → Prop), K (a₁ x) W →
   assign.wpIn (Fence.wide.inRound l) (n - 1 - 1) P (Exit.then K (fun _ _ _ => False)) { tmps := (ps.zip (encs x)).foldl (fun t (p, v) => t.setIfInBounds p v) a.tmps, defers := [] } W)
  (hbody : ∀ (l : Nat) (pre : List α) (x : α) (W : World), w.heap.size + 2 ≤ W.heap.size → I pre W → Ex pre x W → body.wpIn (Fence.wide.inRound l) (n - 1 - 1) P (brkPostM w.heap.size I Ix n₁ T (pre ++ [x]) W) (a₁ x) W)
  (hdone : ∀ (D : Nat) (xs : List α) (W : World), D = w.heap.size → S xs → I xs W → W.heap[D]? = some (.deferred (some [])) → Q .normal { a with defers := { target := .collected D, args := #[] } :: a.defers } W)
  (hstop : ∀ (D : Nat) (c : Code) (xs : List α) (W : World), D = w.heap.size → Sp xs → Ix c xs W → W.heap[D]? = some (.deferred (some [])) → c.wpIn Fence.wide n P Q { a with defers := { target := .collected D, args := #[] } :: a.defers } W) :
  (Code.rangeFunc g ps assign body).wpIn Fence.wide n P Q a w := by
 refine wpIn_rangeFunc ?_
 intro fn hfn
 obtain ⟨rc, hrc⟩ : ∃ rc : LoopState → Option Code → Loop, rc = fun st pe => { state := st, pending := pe, fn, tmps := a.tmps, params := ps, assign, body, defers := w.heap.size } := ⟨_, rfl⟩
 obtain ⟨V, hV, hcV, hD0, hL0⟩ := news2 w (.deferred (some [])) (.loop (rc .ready none))
 have hsV : V.heap.size = w.heap.size + 2 := by rw [hV]; simp
 have bV : Below w.heap.size w V := by rw [hV]; exact ((Below.refl _ w).alloc (Nat.le_refl _) _).alloc (by simp) _
 refine ⟨w.heap.size + 1, [{ target := .collected w.heap.size, args := #[] }], V, { target := .fn (.func gf) lb, args := #[.func (.yield (w.heap.size + 1)) #[] #[]] }, V, gf,
  #[.func (.yield (w.heap.size + 1)) #[] #[]] ++ lb, V, ?_, ?_, fun _ _ => trivial, ?_, fun h => by simp [Fence.wide] at h, ?_⟩
 ·
  rw [hV, hrc]; exact run_enterLoop_outer _ _ _ _ _
 ·
  simp only [resolve, hg]
  simp [go_sem]
 ·
  simp [invoke, go_sem, eg]
 ·
  -- the record and the row of deferred calls, turned or not, lie at or behind w's end
  have turn : ∀ (W : World) (o : Obj) (o' : Obj), W.heap[w.heap.size + 1]? = some o → o.isCells = false → o.isWalk = false → ∀ m, m ≤ w.heap.size → Below m W (W.putObj (w.heap.size + 1) o') :=
   fun W o o' h hc hw m hm => belowK_b (w := w) hm W _ o o' (by omega) h hc hw
  have far : ∀ k, w.heap.size ≤ k → k ∉ Si := fun k hk h => by have := hSi k h; omega
  refine (hseq (w.heap.size + 1) (fun pre W => I pre W ∧ W.heap[w.heap.size + 1]? = some (.loop (rc .ready none)) ∧ W.heap[w.heap.size]? = some (.deferred (some [])))
   (fun pre W => ∃ c, Ix c pre W ∧ W.heap[w.heap.size + 1]? = some (.loop (rc .done (some c))) ∧ W.heap[w.heap.size]? = some (.deferred (some []))) V bV ?_ ?_ (fun pre A h => hBd _ _ h.1) ?_
   ⟨hI _ _ _ h0 (Chg.ofBelow bV (Nat.le_refl _) _), hL0, hD0⟩).mono ?_
  ·
   rintro pre A B ⟨hi, hl, hk⟩ hb
   exact ⟨hI _ _ _ hi hb, hb.at_ hl (far _ (by omega)), hb.at_ hk (far _ (Nat.le_refl _))⟩
  ·
   rintro pre A B ⟨c, hi, hl, hk⟩ hb
   exact ⟨c, hIx _ _ _ _ hi hb, hb.at_ hl (far _ (by omega)), hb.at_ hk (far _ (Nat.le_refl _))⟩
  ·
   rintro pre x W ⟨hi, hl, hk⟩ hx
   have hlt := lt_of_heap hl
   have hy := run_yield (P := P) (args := encs x) hl (by rw [hrc]; exact hps x)
   rw [hrc] at hy
   refine ⟨fn, _, assign, body, hy, roundIn_of_wpIn hfn (hassign _ x W _ ⟨_, run_beginRound hl (by rw [hrc]), ?_⟩)⟩
   have hl2 : (W.putObj (w.heap.size + 1) (.loop { rc .ready none with state := .busy })).heap[w.heap.size + 1]? = some (.loop { rc .ready none with state := .busy }) := World.putObj_heap_same hlt
   have hk2 : (W.putObj (w.heap.size + 1) (.loop { rc .ready none with state := .busy })).heap[w.heap.size]? = some (.deferred (some [])) := (World.putObj_heap_other (by omega)).trans hk
   have b2 := turn W _ (.loop { rc .ready none with state := .busy }) hl rfl rfl
   refine wpIn_mono (hbody _ pre x _ (by simp [World.putObj]; omega) (hIl _ _ _ _ _ hl rfl (by omega) hi) (hEx pre x W _ _ _ hl rfl hx)) ?_
   have fin : ∀ (c : Code) (W3 : World), KeepsTwo w.heap.size (W.putObj (w.heap.size + 1) (.loop { rc .ready none with state := .busy })) W3 → Ix c (pre ++ [x]) W3 →
     ∃ v w', (Instr.endRound (w.heap.size + 1) (some c)).run P W3 = .ok v w' ∧ ((Ending.returned v = .returned (.bool true) ∧ (I (pre ++ [x]) w' ∧ w'.heap[w.heap.size + 1]? = some (.loop (rc .ready none)) ∧ w'.heap[w.heap.size]? = some (.deferred (some []))) ∧ Kpt n₁ T W w') ∨
      (Ending.returned v = .returned (.bool false) ∧ ∃ c, Ix c (pre ++ [x]) w' ∧ w'.heap[w.heap.size + 1]? = some (.loop (rc .done (some c))) ∧ w'.heap[w.heap.size]? = some (.deferred (some [])))) := by
    intro c W3 hk3 hi3
    have hl3 := hk3.2.trans hl2
    have hd3 := hk3.1.trans hk2
    have hr := run_endRound (P := P) (some c) hl3
    have b4 := turn W3 _ (.loop (rc .done (some c))) hl3 rfl rfl
    refine ⟨_, _, hr, .inr ⟨rfl, c, ?_, ?_, ?_⟩⟩
    ·
     have := hIxl _ _ _ _ _ (.loop (rc .done (some c))) hl3 rfl (by omega) hi3
     rw [hrc] at this ⊢
     exact this
    ·
     rw [hrc]; exact World.putObj_heap_same (lt_of_heap hl3)
    ·
     exact (World.putObj_heap_other (by omega)).trans hd3
   rintro e a3 W3 hp
   cases e with
   | normal =>
    obtain ⟨hk3, hb3, hi3⟩ := hp
    have hl3 := hk3.2.trans hl2
    have hd3 := hk3.1.trans hk2
    have hr := run_endRound (P := P) none hl3
    have b4 := turn W3 _ (.loop (rc .ready none)) hl3 rfl rfl
    refine ⟨_, _, hr, .inl ⟨rfl, ⟨?_, ?_, ?_⟩, ?_⟩⟩
    ·
     have := hIl _ _ _ _ (.loop (rc .ready none)) hl3 rfl (by omega) hi3
     rw [hrc] at this ⊢
     exact this
    ·
     rw [hrc]; exact World.putObj_heap_same (lt_of_heap hl3)
    ·
     exact (World.putObj_heap_other (by omega)).trans hd3
    ·
     have := ((Kpt.of_below (T := T) (b2 _ hn₁) (Nat.le_refl _)).trans hb3).trans (Kpt.of_below (b4 _ hn₁) (Nat.le_refl _))
     rw [hrc] at this ⊢
     exact this
   | ret => exact fin .ret W3 hp.1 hp.2
   | exit id => exact fin (.exit id) W3 hp.1 hp.2
   | goto t => exact hp.elim
   | panic ch => exact hp.elim
   | outgrown => exact hp.elim
  ·
   rintro e W2 ⟨⟨v, rfl⟩, (⟨xs, hS, hi, hl, hk⟩ | ⟨xs, hS, c, hi, hl, hk⟩)⟩
   ·
    refine ⟨none, _, by have := run_endLoop (P := P) hl (by rw [hrc]; simp); rw [hrc] at this; exact this, hdone _ xs _ rfl hS ?_ ((World.putObj_heap_other (by omega)).trans hk)⟩
    exact hIl _ _ _ _ _ hl rfl (by omega) hi
   ·
    refine ⟨some c, _, by have := run_endLoop (P := P) hl (by rw [hrc]; simp); rw [hrc] at this; exact this, hstop _ c xs _ rfl hS ?_ ((World.putObj_heap_other (by omega)).trans hk)⟩
    exact hIxl _ _ _ _ _ _ hl rfl (by omega) hi
end
section
open Go.RowKit Go.Lib


attribute [local go_sem] Oper.semAt_some
def textSet (ps : List (List UInt8)) : DataW Unit := Go.Maps.setOf (.agg []) (ps.map (fun p => Lit.string p))
theorem textSet_snoc (ps : List (List UInt8)) (p : List UInt8) : textSet (ps ++ [p]) = (textSet ps).put (.string p) (.agg []) := by
 unfold textSet
 rw [List.map_append]
 exact Go.Maps.setOf_snoc _ _ _
theorem textSet_has (ps : List (List UInt8)) (p : List UInt8) : Go.Maps.has (textSet ps) (.string p) = decide (p ∈ ps) := by
 unfold textSet
 rw [Go.Maps.has_setOf _ _ _ (fun x hx => by obtain ⟨q, _, rfl⟩ := List.mem_map.1 hx; trivial), Bool.eq_iff_iff, List.any_eq_true, decide_eq_true_eq]
 constructor
 ·
  rintro ⟨x, hx, hs⟩
  obtain ⟨q, hq, rfl⟩ := List.mem_map.1 hx
  have := WideAt.sameKey_eq hs
  cases this
  exact hq
 ·
  intro h
  exact ⟨.string p, List.mem_map.2 ⟨p, h, rfl⟩, WideAt.sameKey_self trivial⟩
theorem ownsMap_putl {H : Type} {w : World} {P : Program} {k : TypeId} {R : Value → Option (DataW H × List MemPlace)} {b n l : Nat} {o : Obj} {D : DataW H} (h : w.ownsMap P k R b n D) (hb : b ≠ l) : (w.putObj l o).ownsMap P k R b n D := by
 obtain ⟨es, clock, q, r⟩ := h
 exact ⟨es, clock, (World.putObj_heap_other hb).trans q, r⟩
theorem Kpt.toLow {n : Nat} {T : List Nat} {a b : World} (h : Kpt n T a b) (hT : ∀ x ∈ T, n ≤ x) : Kpt n [] a b :=
 ⟨h.os, h.tape, h.output, h.size, fun k hk _ => h.block k hk (fun q => by have := hT k q; omega)⟩
structure PathsI (w : World) (m b0 b1 b2 : Nat) (ps : List (List UInt8)) (W : World) (B : Option Addr) (d : Nat) : Prop where
 out : W.heap[b0]? = some (.cells #[.slice B ps.length d] 48 (0, 0))
 own : OwnK textTy W B d ps
 far : ∀ a, B = some a → m + 2 ≤ a.block
 box : W.heap[b2]? = some (.cells #[.map (some b1)] 87 (0, 0))
 map : W.ownsMap Tryz.prog 9 (unitElem (H := Unit)) b1 ps.length (textSet ps)
 chg : Chg [] w W
 sz : m ≤ W.heap.size
theorem PathsI.next {w : World} {m b0 b1 b2 : Nat} {ps : List (List UInt8)} {W W' : World} {B : Option Addr} {d : Nat} (h : PathsI w m b0 b1 b2 ps W B d) (hc : Chg [] W W') : PathsI w m b0 b1 b2 ps W' B d :=
 ⟨hc.at_ h.out (by simp), h.own.chg hc (by simp), h.far, hc.at_ h.box (by simp), ownsMap_chg h.map hc (by simp), h.chg.trans hc, Nat.le_trans h.sz hc.size⟩
theorem PathsI.putl {w : World} {m b0 b1 b2 l : Nat} {ps : List (List UInt8)} {W : World} {B : Option Addr} {d : Nat} {o o' : Obj} (h : PathsI w m b0 b1 b2 ps W B d) (hl : W.heap[l]? = some o) (ho : o.isCells = false) (h0 : b0 ≠ l) (h1 : b1 ≠ l) (h2 : b2 ≠ l) (hw : w.heap.size ≤ l) : PathsI w m b0 b1 b2 ps (W.putObj l o') B d :=
 ⟨(World.putObj_heap_other h0).trans h.out, h.own.putl hl ho, h.far, (World.putObj_heap_other h2).trans h.box, ownsMap_putl h.map h1, h.chg.putl hw, by simpa [World.putObj] using h.sz⟩

set_option maxRecDepth 100000 in
set_option maxHeartbeats 16000000 in
theorem stpaths_any (w : World) (A : Option Addr) (c : Nat) (xs : List EvT) (es : List EvP) (h : RdK evTy w A xs.length xs) (hc : xs.length ≤ c) (ho : xs = [] ∨ ∀ a, A = some a → a.block < w.heap.size) (hx : EvsR w xs es) (hn : xs.length ≤ 100000) (hs : ∀ e ∈ es, EvSm e) :
  Calls Tryz.prog 28 #[.slice A xs.length c] w fun r w' => ∃ (B : Option Addr) (d : Nat), r = .returned (.slice B (pathsE es).length d) ∧ RdK textTy w' B (pathsE es).length (pathsE es) ∧ Chg [] w w' := by

 refine (callsIn_wide (n := 6)).1 ?_
 refine callsIn_of_wp_marks Tryz.func28 rfl trivial ?_ rfl
 simp only [Tryz.ntmps28, List.size_toArray, List.length_cons, List.length_nil, Nat.reduceAdd, Nat.reduceSub, Array.replicate_succ, Array.replicate_zero, List.push_toArray, List.append_toArray, List.nil_append, List.cons_append]
 have hmm := @run_makeMap Tryz.prog
 obtain ⟨w1, hw1, c1, q0, q1⟩ := news2 w (.cells #[.slice none 0 0] 48) (.map #[] 0)
 obtain ⟨w2, hw2, c2, q2⟩ := news1 w1 (.cells #[.map (some (w.heap.size + 1))] 87)
 obtain ⟨w3, hw3, c3, q3⟩ := news1 w2 (.cells #[.slice A xs.length c] 22)
 have OWN0 : w1.ownsMap Tryz.prog 9 (unitElem (H := Unit)) (w.heap.size + 1) 0 (textSet []) := ⟨#[], 0, q1, ⟨by simp, Go.MapKept.stamped_empty 0, by simp⟩, Nat.le_refl _, rfl⟩
 have sz1 : w1.heap.size = w.heap.size + 2 := by rw [hw1]; simp
 have sz2 : w2.heap.size = w.heap.size + 3 := by rw [hw2]; simp [sz1]
 have sz3 : w3.heap.size = w.heap.size + 4 := by rw [hw3]; simp [sz2]
 have W1 := Lib.hid hw1
 have W2 := Lib.hid hw2
 have W3 := Lib.hid hw3
 have Q0 := Lib.hid (c3.at_ (c2.at_ q0 (by simp)) (by simp))
 have Q2 := Lib.hid (c3.at_ q2 (by simp))
 have Q3 := Lib.hid q3
 have QM := Lib.hid (ownsMap_chg OWN0 (c2.trans c3) (by simp))
 have C3 := Lib.hid (c1.trans (c2.trans c3))
 have SZ := Lib.hid (And.intro sz1 (And.intro sz2 sz3))
 rw [sz1] at Q2
 rw [sz2] at Q3
 clear hw1 hw2 hw3 c1 c2 c3 q0 q1 q2 q3 OWN0 sz1 sz2 sz3
 gi_wp2_with (refine ⟨trivial, ?_⟩; gi_at_call 53; refine (callsIn_wide.2 (struns_any _ A xs.length c)).mono ?_; rintro e w9 ⟨rfl, rfl⟩)
 rw [← W1.out, ← W2.out, ← W3.out]
 obtain ⟨b0, h0⟩ : ∃ r, w.heap.size = r := ⟨_, rfl⟩
 obtain ⟨b1, h1⟩ : ∃ r, b0 + 1 = r := ⟨_, rfl⟩
 obtain ⟨b2, h2⟩ : ∃ r, b1 + 1 = r := ⟨_, rfl⟩
 obtain ⟨b3, h3⟩ : ∃ r, b2 + 1 = r := ⟨_, rfl⟩
 rw [show w.heap.size + 2 = w.heap.size + 1 + 1 from rfl] at Q2
 rw [show w.heap.size + 3 = w.heap.size + 1 + 1 + 1 from rfl] at Q3
 rw [h0] at Q0 QM Q2 Q3 ⊢
 rw [h1] at QM Q2 Q3 ⊢
 rw [h2] at Q2 Q3 ⊢
 rw [h3] at Q3 ⊢
 have RR : Hid (w.heap.size = b0 ∧ b1 = b0 + 1 ∧ b2 = b0 + 2 ∧ b3 = b0 + 3 ∧ w3.heap.size = b0 + 4) := Lib.hid (by have := SZ.out; omega)
 have HA := Lib.hid h
 have HC := Lib.hid hc
 have HO := Lib.hid ho
 have HX := Lib.hid hx
 have HN := Lib.hid hn
 have HS := Lib.hid hs
 clear W1 W2 W3 SZ h0 h1 h2 h3 h hc ho hx hn hs hmm
 have XP : Hid (∀ (i : Nat) (x : EvT) (e : EvP), xs[i]? = some x → es[i]? = some e → x.p = strOf e.p) := Lib.hid (fun i x e a b => (HX.out.2 i x e a b).p)
 have BLK : Hid (xs = [] ∨ ∀ a, A = some a → a.block < w3.heap.size ∧ a.block ∉ [b0, b1]) := Lib.hid (HO.out.imp id (fun q a ha => by have := q a ha; have := RR.out; exact ⟨by omega, by simp; omega⟩))
 refine range_ownm (gf := 115) (lb := #[.pointer (some ⟨b3, 0, none⟩)]) rfl (enters_of Tryz.func115 (by kernel_rfl) rfl) (encs := fun x : Nat × Nat => #[.slice (runA A x.1) (x.2 - x.1) (x.2 - x.1)]) (n₁ := w3.heap.size) (Nat.le_refl _)
  (S := fun ys => endRun ys = es.length) (Sp := fun _ => True) (Ex := fun pre x _ => x.1 = endRun pre ∧ RunAt es x.1 x.2) (Bd := fun _ => True) (Si := []) (T := [b0, b1]) ?si ?seq (fun _ => rfl)
  (fun pre W => ∃ B d, PathsI w w3.heap.size b0 b1 b2 (pathsE (es.take (endRun pre))) W B d)
  (fun _ _ _ => False)
  ?keep ?keepx ?kl ?kxl ?bd ?start ?elem
  (fun x => { tmps := #[.slice A xs.length c, undef, .slice none 0 0, .pointer (some ⟨b0, 0, none⟩), .pointer (some ⟨b2, 0, none⟩), .slice (runA A x.1) (x.2 - x.1) (x.2 - x.1), undef, undef, undef, .map (some b1), .slice A xs.length c, .func (.func 115) #[] #[.pointer (some ⟨b3, 0, none⟩)], .slice (runA A x.1) (x.2 - x.1) (x.2 - x.1), undef, undef, undef, undef, undef, undef, undef, undef, undef, undef, undef, undef, undef, undef, undef, undef, undef, undef, undef, undef], defers := [] }) ?assign ?body ?done ?stop
 case si => simp
 case start => exact ⟨none, 0, ⟨Q0.out, OwnK.none_ _, by simp, Q2.out, QM.out, C3.out, Nat.le_refl _⟩⟩
 case seq =>
  intro l' J Jx W hW hJ hJx hJb hY h0
  have hs2 := hW.size
  exact runs1_gives 4 l' w3.heap.size b3 [b0, b1] A c xs es J Jx W (by have := RR.out; omega) (by have := RR.out; simp; omega) (by omega) BLK.out (fun pre A B _ h2 hc => hJ pre A B h2 hc) HX.out.1 XP.out (HA.out.chg (C3.out.trans (Chg.ofBelow hW (Nat.le_refl _) [])) (by simp)) HC.out HN.out ((hW.block _ (by have := RR.out; omega)).trans Q3.out) hY h0
 case keep =>
  rintro pre A' B' ⟨B, d, hi⟩ hb
  exact ⟨B, d, hi.next hb⟩
 case keepx =>
  rintro c pre A' B' hf hb
  exact hf.elim
 case kl =>
  rintro pre W l o o' hl ho hll ⟨B, d, hi⟩
  have rr := RR.out
  exact ⟨B, d, hi.putl hl ho (by omega) (by omega) (by omega) (by omega)⟩
 case kxl =>
  rintro c pre W l o o' hl ho hll hf
  exact hf.elim
 case bd => exact fun _ _ _ => trivial
 case elem =>
  rintro pre x W l o o' hl ho hx
  exact hx
 case assign =>
  intro l x W K hK
  gi_wp2
  exact hK
 case body =>
  rintro l' pre ⟨k, m⟩ W hsz ⟨B, d, hi⟩ ⟨hk, hrun⟩
  have rr := RR.out
  dsimp only at hk hrun ⊢
  rw [← hk] at hi
  have km := hrun.lt
  have mn : m ≤ xs.length := by have := hrun.le; have := HX.out.1; omega
  have RA := Lib.hid (HA.out.chg hi.chg (by simp))
  obtain ⟨g, o, eA, _⟩ := RA.out.line (by omega)
  subst eA
  obtain ⟨b, hb⟩ : ∃ b, es[k]? = some b := ⟨_, List.getElem?_eq_getElem (by have := HX.out.1; omega)⟩
  obtain ⟨x0, hx0⟩ : ∃ x, xs[k]? = some x := ⟨_, List.getElem?_eq_getElem (by omega)⟩
  have zk := (evCells RA.out hx0).2.2.1
  rw [XP.out k x0 b hx0 hb] at zk
  have PL : Hid (b.p.length ≤ 10000000) := Lib.hid (HS.out b (List.mem_of_getElem? hb)).1
  have NX := Lib.hid (paths_run hrun hb)
  have HK := Lib.hid hk
  have HSZ := Lib.hid hsz
  have mk0 : 0 < m - k := by omega
  have mk1 : (0 : Int) < ((m - k : Nat) : Int) := by omega
  obtain ⟨ps, hps⟩ : ∃ ps, pathsE (es.take k) = ps := ⟨_, rfl⟩
  rw [hps] at hi NX
  have HI := Lib.hid hi
  have KEY := Lib.hid (keyText b.p (by have := PL.out; unfold maxLen; omega))
  have PSN : Hid (ps.length ≤ 100000) := Lib.hid (by
   have key : ∀ (l : List EvP) (acc : List (List UInt8)), (l.foldl (fun acc e => addP acc e.p) acc).length ≤ acc.length + l.length := by
    intro l
    induction l with
    | nil => intro acc; simp
    | cons x l ih =>
     intro acc
     have := ih (addP acc x.p)
     simp only [List.foldl_cons, List.length_cons]
     have h2 : (addP acc x.p).length ≤ acc.length + 1 := by unfold addP; split <;> simp
     omega
   have := key (es.take k) []
   rw [← hps]
   unfold pathsE
   rw [List.length_take] at this
   have := HN.out
   have := HX.out.1
   simp at *
   omega)
  simp only [runA_some]
  have z0 := cell_of hi.box 0
  simp only [List.getElem?_toArray, List.getElem?_cons_zero] at z0
  obtain ⟨w5, hw5, c5, q5⟩ := news1 W (.cells #[] 80)
  have W5 := Lib.hid hw5
  have I5 := Lib.hid (hi.next c5)
  have C5 := Lib.hid c5
  clear hb hx0 hrun hi hk hsz km mn rr hps hw5 c5 q5
  by_cases hin : b.p ∈ ps
  ·
   have e6 : decide (b.p ∈ ps) = true := decide_eq_true hin
   have NP : Hid (pathsE (es.take m) = ps) := Lib.hid (by rw [NX.out]; unfold addP; rw [if_pos hin])
   clear hin NX
   gi_wp2_with (gi_at_lookup; refine wpListIn_lookup_own_unit _ rfl _ _ 87 rfl 9 80 law_text Tryz.underlying87 (zero_unit _) b1 ps.length (textSet ps) rfl HI.out.map _ _ rfl KEY.out ?_; rw [textSet_has, e6])
   rw [← W5.out]
   refine ⟨KeepsTwo.of_chg C5.out (by simp) HSZ.out, Kpt.of_chg (C5.out.mono (by simp)) HI.out.sz, B, d, ?_⟩
   rw [endRun_snoc, NP.out]
   exact I5.out
  ·
   have e6 : decide (b.p ∈ ps) = false := decide_eq_false hin
   have NP : Hid (pathsE (es.take m) = ps ++ [b.p]) := Lib.hid (by rw [NX.out]; unfold addP; rw [if_neg hin])
   clear hin NX
   gi_upto_region 8 with (gi_at_lookup; refine wpListIn_lookup_own_unit _ rfl _ _ 87 rfl 9 80 law_text Tryz.underlying87 (zero_unit _) b1 ps.length (textSet ps) rfl HI.out.map _ _ rfl KEY.out ?_; rw [textSet_has, e6])
   rw [← W5.out]
   obtain ⟨g5, hg5⟩ : ∃ g, W.heap.size = g := ⟨_, rfl⟩
   rw [hg5]
   clear z0 zk W5 hg5
   have z0 := cell_of I5.out.box 0
   simp only [List.getElem?_toArray, List.getElem?_cons_zero] at z0
   gi_upto_region 9 with (gi_at_mapUpdate; refine wpListIn_mapUpdate_own _ rfl _ _ _ 87 rfl 9 80 law_text Tryz.underlying87 (unitElem (H := Unit)) b1 ps.length _ rfl I5.out.map (by have := PSN.out; unfold maxLen; omega) _ _ _ rfl rfl KEY.out (.agg []) [] unitElem_mk ?_; intro w6 own6 grow6)
   have C6 : Hid (Chg [b1] w5 w6) := Lib.hid ((Chg.refl [b1] w5).grown grow6 (fun i hi => by simp at hi; subst hi; exact .inl (by simp)))
   have MAP6 : Hid (w6.ownsMap Tryz.prog 9 (unitElem (H := Unit)) b1 (ps ++ [b.p]).length (textSet (ps ++ [b.p]))) := Lib.hid (by rw [textSet_snoc, List.length_append]; exact own6)
   obtain ⟨w7, hw7, c7, q7⟩ := news1 w6 (.cells #[.string (strOf b.p)] 9)
   have W7 := Lib.hid hw7
   have RX : Hid (RdK textTy w7 (some ⟨w6.heap.size, 0, none⟩) 1 [b.p]) := Lib.hid (rd_text (xs := [b.p]) q7 (by simp [maxLen]))
   have BF : Hid (∀ a, B = some a → a.block ≠ b1 ∧ a.block ≠ b0) := Lib.hid (fun a ha => by have := I5.out.far a ha; have := RR.out; omega)
   have O7 := Lib.hid ((I5.out.own.chg C6.out (fun a ha => by simpa using (BF.out a ha).1)).chg c7 (by simp))
   have C7 : Hid (Chg [b1] w5 w7) := Lib.hid (C6.out.trans (c7.mono (by simp)))
   have OUT6 := C6.out.at_ I5.out.out (by have := RR.out; simp; omega)
   have zb := cell_of OUT6 0
   simp only [List.getElem?_toArray, List.getElem?_cons_zero] at zb
   have LN : Hid ((ps.length + 1) * 400 ≤ 140737488355327) := Lib.hid (by have := PSN.out; omega)
   have OUTH := Lib.hid (c7.at_ OUT6 (by simp))
   clear own6 grow6 hw7 c7 q7 z0 OUT6
   gi_wp2_with (gi_at_builtin; rw [← W7.out]; refine wpListIn_appK (R := textTy) rfl (.tmp 28) (.tmp 30) rfl rfl O7.out rfl rfl RX.out LN.out ?_; intro B8 d8 w8 o8 g8 e8; have q8 : w8.heap[b0]? = some (.cells #[.slice B ps.length d] 48 (0, 0)) := (g8.block b0 (lt_of_heap OUTH.out) (fun e => by rcases B with _ | a; (· simp at e); (· simp at e; exact (BF.out a rfl).2 e.symm))).trans OUTH.out; have f8 := free_of q8 0; have z8 := cell_of q8 0; simp only [List.getElem?_toArray, List.getElem?_cons_zero] at z8; have Q8 := Lib.hid q8; have O8 := Lib.hid o8; have E8 := Lib.hid e8; have G8 := Lib.hid g8; clear q8 o8 e8 g8)
   have ST := (Chg.refl [b0] w8).setCell (p := ⟨b0, 0, none⟩) (.inl (by simp)) (.slice B8 (ps.length + 1) d8)
   have LO : Hid (∀ a, B8 = some a → w3.heap.size + 2 ≤ a.block) := Lib.hid (fun a ha => by
    rcases E8.out with e | e
    ·
     exact I5.out.far a (by rw [← e]; exact ha)
    ·
     rw [e] at ha; cases ha; have := C7.out.size; have := C5.out.size; have := HSZ.out; show _ ≤ w7.heap.size; omega)
   have C8 : Kpt (w3.heap.size + 2) [b0, b1] W (w8.setCell ⟨b0, 0, none⟩ (.slice B8 (ps.length + 1) d8)) := by
    have k1 : Kpt (w3.heap.size + 2) [b0, b1] W w7 := Kpt.of_chg ((C5.out.mono (by simp)).trans (C7.out.mono (by simp))) HSZ.out
    have k2 : Kpt (w3.heap.size + 2) [b0, b1] w7 w8 := Kpt.grown G8.out (by have := C7.out.size; have := C5.out.size; have := HSZ.out; omega) (fun i hi => by rcases B with _ | a; (· simp at hi); (· simp at hi; subst hi; exact .inl (I5.out.far a rfl)))
    have k3 : Kpt (w3.heap.size + 2) [b0, b1] w8 (w8.setCell ⟨b0, 0, none⟩ (.slice B8 (ps.length + 1) d8)) := (Kpt.of_chg ST (by have := G8.out.size; have := C7.out.size; have := C5.out.size; have := HSZ.out; omega)).mono (Nat.le_refl _) (by simp)
    exact (k1.trans k2).trans k3
   have rr := RR.out
   refine ⟨⟨C8.block _ (by omega) (by simp; omega), C8.block _ (by omega) (by simp; omega)⟩, C8.mono (by omega) (fun z hz => hz), B8, d8, ?_⟩
   rw [endRun_snoc, NP.out]
   refine ⟨?_, ?_, LO.out, ?_, ?_, ?_, Nat.le_trans HI.out.sz C8.size⟩
   ·
    rw [List.length_append]
    simpa using heap_setCell_same w8 b0 0 _ _ (.slice B8 (ps.length + 1) d8) Q8.out
   ·
    exact O8.out.chg ST (fun a ha => by have := LO.out a ha; simp; omega)
   ·
    exact (C8.block b2 (by omega) (by simp; omega)).trans HI.out.box
   ·
    have m8 : w8.ownsMap Tryz.prog 9 (unitElem (H := Unit)) b1 (ps ++ [b.p]).length (textSet (ps ++ [b.p])) := by
     obtain ⟨es', clock, q, r⟩ := MAP6.out
     refine ⟨es', clock, ?_, r⟩
     have q7 : w7.heap[b1]? = some (.map es' clock) := by rw [W7.out]; exact (Below.heap_alloc _ _ _ (lt_of_heap q)).trans q
     exact (G8.out.block b1 (lt_of_heap q7) (fun e => by rcases B with _ | a; (· simp at e); (· simp at e; exact (BF.out a rfl).1 e.symm))).trans q7
    exact ownsMap_chg m8 ST (by simp; omega)
   ·
    exact ((Kpt.of_chg HI.out.chg (Nat.le_refl _)).trans ((C8.mono (n := w.heap.size) (T := [b0, b1]) (by omega) (fun z hz => hz)).toLow (by simp; omega))).chg
 case done =>
  rintro D zs W hD hS ⟨B, d, hi⟩ hK
  rw [hS, List.take_length] at hi
  have z0 := cell_of hi.out 0
  simp only [List.getElem?_toArray, List.getElem?_cons_zero] at z0
  have HI := Lib.hid hi
  have KD := Lib.hid hK
  have DW := Lib.hid (show w.heap.size ≤ D by rw [hD]; exact C3.out.size)
  clear hi hK hS hD
  gi_wp2
  refine ⟨by simp, .inl ⟨_, _, rfl, run_takeDeferred KD.out, ?_⟩⟩
  exact ⟨_, results_tmp rfl _ _ _, B, d, rfl, (HI.out.own.putl KD.out rfl).reads, HI.out.chg.putl DW.out⟩
 case stop =>
  rintro D c zs W hD _ hf hK
  exact hf.elim
end
section
open Go.RowKit Go.Lib

theorem evP_ext {a b : EvP} : (a.n = b.n ∧ a.s = b.s ∧ a.p = b.p ∧ a.k = b.k ∧ a.m = b.m ∧ a.b = b.b ∧ a.q = b.q) ↔ a = b := by
 cases a
 cases b
 simp
instance decEvP : DecidableEq EvP := fun a b => decidable_of_iff _ evP_ext
def s1E : EvP := ⟨1, 1, [102], 1, 0, [], []⟩
def s2E : EvP := ⟨2, 1, [102], 1, 0, [], [(1, 1, 1)]⟩
def s3E : EvP := ⟨3, 1, [102, 47, 103], 1, 0, [], []⟩
def s4E : EvP := ⟨1, 1, [102, 47, 103], 1, 0, [], []⟩
theorem s_put0 : stPut [] s3E = (0, [s3E]) := by decide +kernel
theorem s_put1 : stPut [s3E] s1E = (0, [s1E, s3E]) := by decide +kernel
theorem s_put2 : stPut [s1E, s3E] s2E = (0, [s2E, s3E]) := by decide +kernel
theorem s_known : knownE [s2E, s3E] = (0, [(2, 1, 1), (3, 1, 1)]) := by decide +kernel
theorem s_paths : pathsE [s1E, s3E] = [[102], [102, 47, 103]] := by decide +kernel
theorem s_shelf : [s2E, s3E].filter (fun e => decide (e.p = [102])) = [s2E] := by decide +kernel
theorem s_near : [s2E, s3E].filter (fun e => nearL e.p [102, 47, 103]) = [s2E, s3E] := by decide +kernel
theorem s_sm (e : EvP) (h : e ∈ [s1E, s2E, s3E, s4E]) : EvSm e ∧ e.q.length ≤ 100000 := by
 simp at h
 rcases h with rfl | rfl | rfl | rfl <;> (constructor <;> simp [EvSm, s1E, s2E, s3E, s4E])
theorem s_sms {l : List EvP} (h : ∀ e ∈ l, e ∈ [s1E, s2E, s3E, s4E] := by simp) : ∀ e ∈ l, EvSm e ∧ e.q.length ≤ 100000 := fun e he => s_sm e (h e he)
end
section
open Go.RowKit Go.Lib


set_option maxRecDepth 100000 in
set_option maxHeartbeats 2000000 in
theorem l10one_any (w : World) (n s : Int) (p : ByteArray) (B : Option Addr) (bl bc : Nat) : Calls Tryz.prog 77 #[.int .i64 n, .int .i64 s, .string p, .slice B bl bc] w fun r w' => r = .returned (.agg #[.int .i64 n, .int .i64 s, .string p, .int .i64 1, .int .i64 0, .slice none 0 0, .slice B bl bc]) ∧ Chg [] w w' := by
 have C : Hid (Chg [] w (w.alloc (.cells #[.int .i64 n, .int .i64 s, .string p, .int .i64 1, .int .i64 0, .slice none 0 0, .slice B bl bc] 30))) := Lib.hid ((Chg.refl [] w).alloc _)
 have b := heap_alloc_new w (.cells #[.int .i64 n, .int .i64 s, .string p, .int .i64 1, .int .i64 0, .slice none 0 0, .slice B bl bc] 30)
 go_enter Tryz.func77, Tryz.ntmps77
 go_wp2
 have z0 := cell_of b 0
 have z1 := cell_of b 1
 have z2 := cell_of b 2
 have z3 := cell_of b 3
 have z4 := cell_of b 4
 have z5 := cell_of b 5
 have z6 := cell_of b 6
 simp only [List.getElem?_toArray, List.getElem?_cons_succ, List.getElem?_cons_zero] at z0 z1 z2 z3 z4 z5 z6
 refine bodyPost_ret (v := .agg #[.int .i64 n, .int .i64 s, .string p, .int .i64 1, .int .i64 0, .slice none 0 0, .slice B bl bc]) (by simp [results, Tryz.results77, go_sem, z0, z1, z2, z3, z4, z5, z6]) rfl ?_
 exact ⟨rfl, C.out⟩
set_option maxRecDepth 100000 in
set_option maxHeartbeats 2000000 in
theorem l10is_any (w : World) (A B : Option Addr) (c d : Nat) (xs ys : List EvT) (es fs : List EvP) (h : RdK evTy w A xs.length xs) (h' : RdK evTy w B ys.length ys) (hx : EvsR w xs es) (hy : EvsR w ys fs) (hn : xs.length ≤ 100000 ∧ ys.length ≤ 100000) (hq : (∀ e ∈ es, e.q.length ≤ 140737488351232) ∧ (∀ e ∈ fs, e.q.length ≤ 140737488351232)) :
  Calls Tryz.prog 44 #[.slice A xs.length c, .slice B ys.length d] w fun r w' => r = .returned (.bool (sameL es fs)) ∧ Chg [] w w' := by
 have CC := Lib.hid (sameevs_any w A B c d xs ys es fs h h' hx hy hn hq)
 clear h h' hx hy hn hq
 generalize sameL es fs = v at *
 go_enter Tryz.func44, Tryz.ntmps44
 go_wp2_with fail
 refine CC.out.mono ?_
 rintro r w1 ⟨rfl, hc⟩
 go_wp2; go_ret
 exact ⟨rfl, hc⟩
set_option maxHeartbeats 4000000 in
theorem set7_heap {w : World} {g : Nat} {T : TypeId} {a0 a1 a2 a3 a4 a5 a6 : Value} (v0 v1 v2 v3 v4 v5 v6 : Value) (h : w.heap[g]? = some (.cells #[a0, a1, a2, a3, a4, a5, a6] T (0, 0))) :
  (((((((w.setCell ⟨g, 0, none⟩ v0).setCell ⟨g, 1, none⟩ v1).setCell ⟨g, 2, none⟩ v2).setCell ⟨g, 3, none⟩ v3).setCell ⟨g, 4, none⟩ v4).setCell ⟨g, 5, none⟩ v5).setCell ⟨g, 6, none⟩ v6).heap[g]? = some (.cells #[v0, v1, v2, v3, v4, v5, v6] T (0, 0)) := by
 have p0 := heap_setCell_same w g 0 _ _ v0 h
 have p1 := heap_setCell_same _ g 1 _ _ v1 p0
 have p2 := heap_setCell_same _ g 2 _ _ v2 p1
 have p3 := heap_setCell_same _ g 3 _ _ v3 p2
 have p4 := heap_setCell_same _ g 4 _ _ v4 p3
 have p5 := heap_setCell_same _ g 5 _ _ v5 p4
 exact heap_setCell_same _ g 6 _ _ v6 p5


set_option maxRecDepth 100000 in
set_option maxHeartbeats 8000000 in
theorem l10three_any (w : World) : Calls Tryz.prog 43 #[] w fun r w' => ∃ X Y Z : EvT, r = .returned (.tuple #[.agg #[.int .i64 X.n, .int .i64 X.s, .string X.p, .int .i64 X.k, .int .i64 X.m, .slice X.A X.l X.c, .slice X.B X.bl X.bc], .agg #[.int .i64 Y.n, .int .i64 Y.s, .string Y.p, .int .i64 Y.k, .int .i64 Y.m, .slice Y.A Y.l Y.c, .slice Y.B Y.bl Y.bc], .agg #[.int .i64 Z.n, .int .i64 Z.s, .string Z.p, .int .i64 Z.k, .int .i64 Z.m, .slice Z.A Z.l Z.c, .slice Z.B Z.bl Z.bc]]) ∧ EvR w' X s1E ∧ EvR w' Y s2E ∧ EvR w' Z s3E ∧ Chg [] w w' := by
 obtain ⟨w1, hw1, c1, b0, b1, b2⟩ := news3 w (.cells #[.int .i64 0, .int .i64 0, .string ⟨#[]⟩, .int .i64 0, .int .i64 0, .slice none 0 0, .slice none 0 0] 30) (.cells #[.int .i64 0, .int .i64 0, .string ⟨#[]⟩, .int .i64 0, .int .i64 0, .slice none 0 0, .slice none 0 0] 30) (.cells #[.int .i64 0, .int .i64 0, .string ⟨#[]⟩, .int .i64 0, .int .i64 0, .slice none 0 0, .slice none 0 0] 30)
 have W1 := Lib.hid hw1
 have B0 := Lib.hid b0
 have B1 := Lib.hid b1
 have B2 := Lib.hid b2
 have C1 := Lib.hid c1
 clear hw1 b0 b1 b2 c1
 go_enter Tryz.func43, Tryz.ntmps43
 go_upto_region 1 with fail
 rw [← W1.out]
 obtain ⟨g0, h0⟩ : ∃ g, w.heap.size = g := ⟨_, rfl⟩
 obtain ⟨g1, h1⟩ : ∃ g, g0 + 1 = g := ⟨_, rfl⟩
 obtain ⟨g2, h2⟩ : ∃ g, g1 + 1 = g := ⟨_, rfl⟩
 rw [show w.heap.size + 2 = w.heap.size + 1 + 1 from rfl] at B2
 rw [h0] at B0 B1 B2 ⊢
 rw [h1] at B1 B2 ⊢
 rw [h2] at B2 ⊢
 have NE : Hid (g0 ≠ g1 ∧ g0 ≠ g2 ∧ g1 ≠ g2 ∧ w.heap.size ≤ g0 ∧ w.heap.size ≤ g1 ∧ w.heap.size ≤ g2) := Lib.hid (by omega)
 clear h0 h1 h2 W1; go_wp2_with fail
 refine (l10one_any w1 1 1 ⟨#[102]⟩ none 0 0).mono ?_
 rintro r w2 ⟨rfl, hc⟩
 have C2 := Lib.hid hc
 clear hc
 obtain ⟨w3, hw3, c3, b3⟩ := news1 w2 (.cells #[.int .i64 1, .int .i64 1, .int .i64 1] 72)
 have W3 := Lib.hid hw3
 have RS : Hid (RdK spanTy w3 (some ⟨w2.heap.size, 0, none⟩) 1 [(1, 1, 1)]) := Lib.hid ⟨rfl, fun j v hj => ⟨_, rfl, by rw [add_zero_lit, cell_of b3 j]; simpa [RowTy.flat, spanTy] using hj⟩⟩
 have C3 := Lib.hid (C2.out.trans c3)
 clear hw3 c3 b3; go_wp2_with fail
 rw [← W3.out]
 obtain ⟨gs, hgs⟩ : ∃ g, w2.heap.size = g := ⟨_, rfl⟩
 have NG : Hid (gs ≠ g0 ∧ gs ≠ g1 ∧ gs ≠ g2) := Lib.hid (by have a := lt_of_heap B0.out; have b := lt_of_heap B1.out; have d := lt_of_heap B2.out; have := C2.out.size; omega)
 rw [hgs] at RS ⊢
 clear hgs W3 C2
 refine (l10one_any w3 2 1 ⟨#[102]⟩ (some ⟨gs, 0, none⟩) 1 1).mono ?_
 rintro r w4 ⟨rfl, hc⟩
 have RS4 := Lib.hid (RS.out.chg hc (by simp))
 have C4 := Lib.hid (C3.out.trans hc)
 clear hc C3 RS; go_wp2_with fail
 refine (l10one_any w4 3 1 ⟨#[102, 47, 103]⟩ none 0 0).mono ?_
 rintro r w5 ⟨rfl, hc⟩
 have RS5 := Lib.hid (RS4.out.chg hc (by simp))
 have C5 := Lib.hid (C4.out.trans hc)
 clear hc C4 RS4
 have q0 := C5.out.at_ B0.out (by simp)
 have q1 := C5.out.at_ B1.out (by simp)
 have q2 := C5.out.at_ B2.out (by simp)
 have z00 := cell_of q0 0
 have f00 := free_of q0 0
 have z01 := cell_of q0 1
 have f01 := free_of q0 1
 have z02 := cell_of q0 2
 have f02 := free_of q0 2
 have z03 := cell_of q0 3
 have f03 := free_of q0 3
 have z04 := cell_of q0 4
 have f04 := free_of q0 4
 have z05 := cell_of q0 5
 have f05 := free_of q0 5
 have z06 := cell_of q0 6
 have f06 := free_of q0 6
 simp only [List.getElem?_toArray, List.getElem?_cons_succ, List.getElem?_cons_zero] at z00 z01 z02 z03 z04 z05 z06
 have z10 := cell_of q1 0
 have f10 := free_of q1 0
 have z11 := cell_of q1 1
 have f11 := free_of q1 1
 have z12 := cell_of q1 2
 have f12 := free_of q1 2
 have z13 := cell_of q1 3
 have f13 := free_of q1 3
 have z14 := cell_of q1 4
 have f14 := free_of q1 4
 have z15 := cell_of q1 5
 have f15 := free_of q1 5
 have z16 := cell_of q1 6
 have f16 := free_of q1 6
 simp only [List.getElem?_toArray, List.getElem?_cons_succ, List.getElem?_cons_zero] at z10 z11 z12 z13 z14 z15 z16
 have z20 := cell_of q2 0
 have f20 := free_of q2 0
 have z21 := cell_of q2 1
 have f21 := free_of q2 1
 have z22 := cell_of q2 2
 have f22 := free_of q2 2
 have z23 := cell_of q2 3
 have f23 := free_of q2 3
 have z24 := cell_of q2 4
 have f24 := free_of q2 4
 have z25 := cell_of q2 5
 have f25 := free_of q2 5
 have z26 := cell_of q2 6
 have f26 := free_of q2 6
 simp only [List.getElem?_toArray, List.getElem?_cons_succ, List.getElem?_cons_zero] at z20 z21 z22 z23 z24 z25 z26
 have n01 : ¬ g0 = g1 := NE.out.1
 have n02 : ¬ g0 = g2 := NE.out.2.1
 have n12 : ¬ g1 = g2 := NE.out.2.2.1
 have n10 : ¬ g1 = g0 := fun e => n01 e.symm
 have n20 : ¬ g2 = g0 := fun e => n02 e.symm
 have n21 : ¬ g2 = g1 := fun e => n12 e.symm
 have Q0 := Lib.hid q0
 have Q1 := Lib.hid q1
 have Q2 := Lib.hid q2
 clear q0 q1 q2; go_wp2; clear z00 f00 z01 f01 z02 f02 z03 f03 z04 f04 z05 f05 z06 f06 z10 f10 z11 f11 z12 f12 z13 f13 z14 f14 z15 f15 z16 f16 z20 f20 z21 f21 z22 f22 z23 f23 z24 f24 z25 f25 z26 f26
 have A0 := set7_heap (.int .i64 1) (.int .i64 1) (.string ⟨#[102]⟩) (.int .i64 1) (.int .i64 0) (.slice none 0 0) (.slice none 0 0) Q0.out
 have HA0 := Chg.set7 (Chg.refl [g0] w5) (g := g0) (.inl (by simp)) 0 (.int .i64 1) (.int .i64 1) (.string ⟨#[102]⟩) (.int .i64 1) (.int .i64 0) (.slice none 0 0) (.slice none 0 0)
 have A1 := HA0.at_ Q1.out (by simpa using n10)
 have A2 := HA0.at_ Q2.out (by simpa using n20)
 have D1 := set7_heap (.int .i64 2) (.int .i64 1) (.string ⟨#[102]⟩) (.int .i64 1) (.int .i64 0) (.slice none 0 0) (.slice (some ⟨gs, 0, none⟩) 1 1) A1
 have HD1 := Chg.set7 (Chg.refl [g1] (((((((w5.setCell ⟨g0, 0, none⟩ (.int .i64 1)).setCell ⟨g0, 1, none⟩ (.int .i64 1)).setCell ⟨g0, 2, none⟩ (.string ⟨#[102]⟩)).setCell ⟨g0, 3, none⟩ (.int .i64 1)).setCell ⟨g0, 4, none⟩ (.int .i64 0)).setCell ⟨g0, 5, none⟩ (.slice none 0 0)).setCell ⟨g0, 6, none⟩ (.slice none 0 0))) (g := g1) (.inl (by simp)) 0 (.int .i64 2) (.int .i64 1) (.string ⟨#[102]⟩) (.int .i64 1) (.int .i64 0) (.slice none 0 0) (.slice (some ⟨gs, 0, none⟩) 1 1)
 have D0 := HD1.at_ A0 (by simpa using n01)
 have D2 := HD1.at_ A2 (by simpa using n21)
 have E2 := set7_heap (.int .i64 3) (.int .i64 1) (.string ⟨#[102, 47, 103]⟩) (.int .i64 1) (.int .i64 0) (.slice none 0 0) (.slice none 0 0) D2
 have HE2 := Chg.set7 (Chg.refl [g2] ((((((((((((((w5.setCell ⟨g0, 0, none⟩ (.int .i64 1)).setCell ⟨g0, 1, none⟩ (.int .i64 1)).setCell ⟨g0, 2, none⟩ (.string ⟨#[102]⟩)).setCell ⟨g0, 3, none⟩ (.int .i64 1)).setCell ⟨g0, 4, none⟩ (.int .i64 0)).setCell ⟨g0, 5, none⟩ (.slice none 0 0)).setCell ⟨g0, 6, none⟩ (.slice none 0 0)).setCell ⟨g1, 0, none⟩ (.int .i64 2)).setCell ⟨g1, 1, none⟩ (.int .i64 1)).setCell ⟨g1, 2, none⟩ (.string ⟨#[102]⟩)).setCell ⟨g1, 3, none⟩ (.int .i64 1)).setCell ⟨g1, 4, none⟩ (.int .i64 0)).setCell ⟨g1, 5, none⟩ (.slice none 0 0)).setCell ⟨g1, 6, none⟩ (.slice (some ⟨gs, 0, none⟩) 1 1))) (g := g2) (.inl (by simp)) 0 (.int .i64 3) (.int .i64 1) (.string ⟨#[102, 47, 103]⟩) (.int .i64 1) (.int .i64 0) (.slice none 0 0) (.slice none 0 0)
 have E0 := HE2.at_ D0 (by simpa using n02)
 have E1 := HE2.at_ D1 (by simpa using n12)
 have CF := ((HA0.mono (S' := [g0, g1, g2]) (by simp)).trans (HD1.mono (by simp))).trans (HE2.mono (by simp))
 clear HA0 A0 A1 A2 D1 HD1 D0 D2 HE2
 simp only [Nat.zero_add] at *
 generalize (((((((((((((((((((((w5.setCell ⟨g0, 0, none⟩ (.int .i64 1)).setCell ⟨g0, 1, none⟩ (.int .i64 1)).setCell ⟨g0, 2, none⟩ (.string ⟨#[102]⟩)).setCell ⟨g0, 3, none⟩ (.int .i64 1)).setCell ⟨g0, 4, none⟩ (.int .i64 0)).setCell ⟨g0, 5, none⟩ (.slice none 0 0)).setCell ⟨g0, 6, none⟩ (.slice none 0 0)).setCell ⟨g1, 0, none⟩ (.int .i64 2)).setCell ⟨g1, 1, none⟩ (.int .i64 1)).setCell ⟨g1, 2, none⟩ (.string ⟨#[102]⟩)).setCell ⟨g1, 3, none⟩ (.int .i64 1)).setCell ⟨g1, 4, none⟩ (.int .i64 0)).setCell ⟨g1, 5, none⟩ (.slice none 0 0)).setCell ⟨g1, 6, none⟩ (.slice (some ⟨gs, 0, none⟩) 1 1)).setCell ⟨g2, 0, none⟩ (.int .i64 3)).setCell ⟨g2, 1, none⟩ (.int .i64 1)).setCell ⟨g2, 2, none⟩ (.string ⟨#[102, 47, 103]⟩)).setCell ⟨g2, 3, none⟩ (.int .i64 1)).setCell ⟨g2, 4, none⟩ (.int .i64 0)).setCell ⟨g2, 5, none⟩ (.slice none 0 0)).setCell ⟨g2, 6, none⟩ (.slice none 0 0)) = w6 at *
 have y00 := cell_of E0 0
 have y01 := cell_of E0 1
 have y02 := cell_of E0 2
 have y03 := cell_of E0 3
 have y04 := cell_of E0 4
 have y05 := cell_of E0 5
 have y06 := cell_of E0 6
 have y10 := cell_of E1 0
 have y11 := cell_of E1 1
 have y12 := cell_of E1 2
 have y13 := cell_of E1 3
 have y14 := cell_of E1 4
 have y15 := cell_of E1 5
 have y16 := cell_of E1 6
 have y20 := cell_of E2 0
 have y21 := cell_of E2 1
 have y22 := cell_of E2 2
 have y23 := cell_of E2 3
 have y24 := cell_of E2 4
 have y25 := cell_of E2 5
 have y26 := cell_of E2 6
 simp only [List.getElem?_toArray, List.getElem?_cons_succ, List.getElem?_cons_zero] at y00 y01 y02 y03 y04 y05 y06 y10 y11 y12 y13 y14 y15 y16 y20 y21 y22 y23 y24 y25 y26
 refine bodyPost_ret (v := .tuple #[.agg #[.int .i64 1, .int .i64 1, .string ⟨#[102]⟩, .int .i64 1, .int .i64 0, .slice none 0 0, .slice none 0 0], .agg #[.int .i64 2, .int .i64 1, .string ⟨#[102]⟩, .int .i64 1, .int .i64 0, .slice none 0 0, .slice (some ⟨gs, 0, none⟩) 1 1], .agg #[.int .i64 3, .int .i64 1, .string ⟨#[102, 47, 103]⟩, .int .i64 1, .int .i64 0, .slice none 0 0, .slice none 0 0]]) (by simp [results, Tryz.results43, go_sem, y00, y01, y02, y03, y04, y05, y06, y10, y11, y12, y13, y14, y15, y16, y20, y21, y22, y23, y24, y25, y26]) rfl ?_
 have RS6 := RS5.out.chg CF (fun a ha => by cases ha; have := NG.out; simp; omega)
 exact ⟨⟨1, 1, ⟨#[102]⟩, 1, 0, none, 0, 0, none, 0, 0⟩, ⟨2, 1, ⟨#[102]⟩, 1, 0, none, 0, 0, some ⟨gs, 0, none⟩, 1, 1⟩, ⟨3, 1, ⟨#[102, 47, 103]⟩, 1, 0, none, 0, 0, none, 0, 0⟩, rfl, ⟨rfl, rfl, rfl, rfl, rfl, rfl, rfl, Bs.nil _ _, RdK.nil _ _⟩, ⟨rfl, rfl, rfl, rfl, rfl, rfl, rfl, Bs.nil _ _, RS6⟩, ⟨rfl, rfl, rfl, rfl, rfl, rfl, rfl, Bs.nil _ _, RdK.nil _ _⟩, (C1.out.trans C5.out).trans' CF (fun z hz => .inr (by have := NE.out; simp at hz; omega))⟩
end
end Go.Proofs.YtomgjogkkoigbaaGreatDoor
