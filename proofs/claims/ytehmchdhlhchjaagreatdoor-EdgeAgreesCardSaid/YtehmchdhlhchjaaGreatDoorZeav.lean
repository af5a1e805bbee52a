/- Where the shelf of a path stands in a store. store.put's func; rebuilt. store.put. A range over a function whose body may also write maps: no program here. store.runs: the runs of a store. Sets of dots, and of texts. As XRangeo; range_late: of an iterator that lays boxes of its own ahead of its first yield (blocks from the start up to m), with a body that always goes on and makes memory of its own (behind m); range_own1: what the caller asks of its invariant is less. No program here. A drawn region in a round's frame, walked as outside of it. -/
import Derived.Test.YtehmchdhlhchjaaGreatDoorZeas
import Derived.Test.YtehmchdhlhchjaaGreatDoorZeau
import Derived.Test.YtehmchdhlhchjaaGreatDoorZear
import Derived.Deep.Cut
import Derived.Test.YtehmchdhlhchjaaGreatDoorZeam
import Derived.Test.YtehmchdhlhchjaaGreatDoorZeat
import Derived.Test.YtehmchdhlhchjaaGreatDoorZeag
import Derived.BigQuiet
import Derived.Test.YtehmchdhlhchjaaGreatDoorZeaa
import Derived.Test.YtehmchdhlhchjaaGreatDoorZeaf
import Derived.OwnWalkIn
import Derived.Maps.OwnSet
import Derived.DeepKeys4
import Derived.StringKeys
import Derived.RangeFuncCalls
import Derived.OrdersIn
set_option linter.unusedSimpArgs false
set_option linter.unusedVariables false
set_option maxHeartbeats 32000000
namespace Go.Proofs.YtehmchdhlhchjaaGreatDoor
section
open Go.RowKit Go.Lib


def cmpL (a b : List UInt8) : Int := if lessL a b = true then -1 else if lessL b a = true then 1 else 0
theorem cmpL_neg {a b : List UInt8} : cmpL a b < 0 ↔ lessL a b = true := by
 unfold cmpL
 split
 ·
  rename_i h; exact ⟨fun _ => h, fun _ => by decide⟩
 ·
  rename_i h; split <;> exact ⟨fun q => absurd q (by decide), fun q => absurd q h⟩
set_option maxRecDepth 100000 in
theorem orderofs_any (w : World) (a b : List UInt8) (ha : a.length ≤ 10000000) (hb : b.length ≤ 10000000) :
  Calls Tryz.prog 159 #[.string (strOf a), .string (strOf b), .func (.func 66) #[] #[]] w fun e w' => e = .returned (.int .i64 (cmpL a b)) ∧ Chg [] w w' := by
 have L1 := h_ (fun w => phless_any w a b ha hb)
 have L2 := h_ (fun w => phless_any w b a hb ha)
 unfold cmpL
 generalize lessL a b = u at *
 generalize lessL b a = v at *
 clear ha hb
 go_enter Tryz.func159, Tryz.ntmps159
 go_wp2_with fail
 refine (L1.out _).mono ?_
 rintro e w1 ⟨rfl, hc⟩
 have C1 := h_ hc
 clear hc
 cases u
 ·
  go_wp2_with fail
  refine (L2.out _).mono ?_
  rintro e w2 ⟨rfl, hc⟩
  have C2 := h_ (C1.out.trans hc)
  clear hc
  cases v
  ·
   go_wp2; go_ret
   exact ⟨rfl, C2.out⟩
  ·
   go_wp2; go_ret
   exact ⟨rfl, C2.out⟩
 ·
  go_wp2; go_ret
  exact ⟨rfl, C1.out⟩
set_option maxRecDepth 100000 in
theorem stplace1_any (w : World) (x : EvT) (a b : List UInt8) (hx : x.p = strOf a) (ha : a.length ≤ 10000000) (hb : b.length ≤ 10000000) :
  Calls Tryz.prog 158 #[.agg #[.int .i64 x.n, .int .i64 x.s, .string x.p, .int .i64 x.k, .int .i64 x.m, .slice x.A x.l x.c, .slice x.B x.bl x.bc], .string (strOf b)] w fun e w' => e = .returned (.int .i64 (cmpL a b)) ∧ Chg [] w w' := by
 obtain ⟨w1, hw1, c1, b1⟩ := news1 w (.cells #[.int .i64 x.n, .int .i64 x.s, .string x.p, .int .i64 x.k, .int .i64 x.m, .slice x.A x.l x.c, .slice x.B x.bl x.bc] 40)
 have W1 := h_ hw1
 have C1 := h_ c1
 have CC := h_ (orderofs_any w1 a b ha hb)
 have z2 := cell_of b1 2
 simp only [gA, gY, gZ] at z2
 rw [hx] at z2
 clear hw1 c1 b1 hx ha hb
 go_enter Tryz.func158, Tryz.ntmps158
 go_upto_region 1 with fail
 rw [← W1.out]
 generalize w.heap.size = g1 at *
 clear W1; go_wp2_with fail; clear z2
 refine CC.out.mono ?_
 rintro r w2 ⟨rfl, hc⟩
 replace C1 := h_ (C1.out.trans hc)
 clear hc CC; go_wp2; go_ret
 exact ⟨rfl, C1.out⟩
def TupB (r : Ending) (i : Nat) : Prop := ∃ v : Bool, r = .returned (.tuple #[.int .i64 (i : Int), .bool v])
theorem TupB.mk {r : Ending} {i : Nat} (v : Bool) (h : r = .returned (.tuple #[.int .i64 (i : Int), .bool v])) : TupB r i := ⟨v, h⟩
set_option maxRecDepth 100000 in
theorem binp_any (w : World) (A : Option Addr) (c : Nat) (xs : List EvT) (es : List EvP) (q : List UInt8) (h : RdK evTy w A xs.length xs) (hx : EvsR w xs es) (hn : es.Pairwise leP) (hl : xs.length ≤ 100000) (hq : q.length ≤ 10000000) (he : ∀ e ∈ es, e.p.length ≤ 10000000) :
  Calls Tryz.prog 157 #[.slice A xs.length c, .string (strOf q), .func (.func 158) #[] #[]] w fun r w' => ∃ i : Nat, i ≤ xs.length ∧ LoP es q i ∧ HiP es q i ∧ TupB r i ∧ Chg [] w w' := by
 have HA := h_ h
 have HX := h_ hx
 have HNM := h_ hn
 have HL := h_ hl
 have HCMP : Hid (∀ (w' : World) (k : Nat) (x : EvT) (e : EvP), xs[k]? = some x → es[k]? = some e → Calls Tryz.prog 158 #[.agg #[.int .i64 x.n, .int .i64 x.s, .string x.p, .int .i64 x.k, .int .i64 x.m, .slice x.A x.l x.c, .slice x.B x.bl x.bc], .string (strOf q)] w' fun r w2 => r = .returned (.int .i64 (cmpL e.p q)) ∧ Chg [] w' w2) := h_ (fun w' k x e h1 h2 => stplace1_any w' x e.p q (hx.2 k x e h1 h2).p (he e (List.mem_of_getElem? h2)) hq)
 clear h hx hn hl hq he
 go_enter Tryz.func157, Tryz.ntmps157
 go_wp2
 go_loopw [9, 10] (fun v9 v10 wr => ∃ (i j : Nat), i ≤ j ∧ j ≤ xs.length ∧ v9 = .int .i64 (i : Int) ∧ v10 = .int .i64 (j : Int) ∧ Hid (LoP es q i ∧ HiP es q j) ∧ Hid (Chg [] w wr)) (fun v9 v10 _ => (RowKit.intOf v10).toNat - (RowKit.intOf v9).toNat)
 case atStart => exact ⟨0, xs.length, Nat.zero_le _, Nat.le_refl _, rfl, rfl, h_ ⟨fun p x _ h => absurd h (by omega), fun p x hx h => absurd ((List.getElem?_eq_some_iff.1 hx).1) (by have := HX.out.1; omega)⟩, Chg.refl _ _⟩
 case round =>
  obtain ⟨i, j, hij, hj, rfl, rfl, HI, HC⟩ := hrel
  have i0 : (0 : Int) ≤ (i : Int) := by omega
  have hl := HL.out
  have i1 : IntKind.i64.wrap ((i : Int) + (j : Int)) = ((i + j : Nat) : Int) := by rw [IntWalk.i64_in _ (by omega)]; omega
  by_cases hlt : i < j
  ·
   have i2 : (i : Int) < (j : Int) := by omega
   go_upto_region 5 with fail
   obtain ⟨k, hk⟩ : ∃ k : Nat, k = (i + j) / 2 := ⟨_, rfl⟩
   have e1 : ((i : Int) + (j : Int)) / 2 = (k : Int) := by omega
   rw [e1]
   have hk1 : i ≤ k ∧ k < j := by omega
   clear hk e1 i1 i2
   obtain ⟨x, e, ex, ee, _⟩ := HX.out.at_ (show k < xs.length by omega)
   obtain ⟨g, o, eA, _⟩ := HA.out.line (by omega)
   subst eA
   obtain ⟨z0, z1, z2, z3, z4, z5, z6⟩ := evCells (HA.out.chg HC.out (by simp)) ex
   have k0 : (0 : Int) ≤ (k : Int) := by omega
   have k1 : (k : Int) < (xs.length : Int) := by omega
   have EE := h_ ee
   have CL := h_ (HCMP.out wr k x e ex ee)
   clear ex ee; go_wp2_with fail; clear z0 z1 z2 z3 z4 z5 z6
   refine CL.out.mono ?_
   rintro r w2 ⟨rfl, hc⟩
   have CE := h_ (HC.out.trans hc)
   clear hc CL
   by_cases hneg : cmpL e.p q < 0
   ·
    have LO := h_ (loP_next HNM.out EE.out (cmpL_neg.1 hneg))
    have dn1 : decide (cmpL e.p q < 0) = true := decide_eq_true hneg
    have w1' : IntKind.i64.wrap ((k : Int) + 1) = (k : Int) + 1 := IntWalk.i64_in _ (by omega)
    go_wp2; go_round
    case rel => exact ⟨k + 1, j, by omega, hj, by go_num, rfl, h_ ⟨LO.out, HI.out.2⟩, CE⟩
    case measure => simp [RowKit.intOf]; omega
   ·
    have HIN := h_ (hiP_next HNM.out EE.out (by
     rcases t : lessL e.p q with _ | _
     ·
      rfl
     ·
      exact absurd (cmpL_neg.2 t) hneg))
    have dn1 : decide (cmpL e.p q < 0) = false := decide_eq_false hneg
    go_wp2; go_round
    case rel => exact ⟨i, k, by omega, by omega, rfl, rfl, h_ ⟨HI.out.1, HIN.out⟩, CE⟩
    case measure => simp [RowKit.intOf]; omega
  ·
   obtain rfl : i = j := by omega
   have i2 : ¬ (i : Int) < (i : Int) := by omega
   by_cases hin : i < xs.length
   ·
    have k1 : (i : Int) < (xs.length : Int) := by omega
    obtain ⟨x, e, ex, ee, _⟩ := HX.out.at_ hin
    obtain ⟨g, o, eA, _⟩ := HA.out.line (by omega)
    subst eA
    obtain ⟨z0, z1, z2, z3, z4, z5, z6⟩ := evCells (HA.out.chg HC.out (by simp)) ex
    have CL := h_ (HCMP.out wr i x e ex ee)
    clear ex ee; go_wp2_with fail; clear z0 z1 z2 z3 z4 z5 z6
    refine CL.out.mono ?_
    rintro r w2 ⟨rfl, hc⟩
    have CE := h_ (HC.out.trans hc)
    clear hc CL; go_wp2; go_ret2
    exact ⟨i, by omega, HI.out.1, HI.out.2, TupB.mk _ rfl, CE.out⟩
   ·
    have k1 : ¬ (i : Int) < (xs.length : Int) := by omega
    have k2 : decide ((i : Int) < (xs.length : Int)) = false := by simp; omega
    go_wp2; go_ret2
    exact ⟨i, by omega, HI.out.1, HI.out.2, TupB.mk _ rfl, HC.out⟩
set_option maxRecDepth 100000 in
theorem stplace_any (w : World) (A : Option Addr) (c : Nat) (xs : List EvT) (es : List EvP) (q : List UInt8) (h : RdK evTy w A xs.length xs) (hx : EvsR w xs es) (hn : es.Pairwise leP) (hl : xs.length ≤ 100000) (hq : q.length ≤ 10000000) (he : ∀ e ∈ es, e.p.length ≤ 10000000) :
  Calls Tryz.prog 105 #[.slice A xs.length c, .string (strOf q)] w fun r w' => ∃ i j : Nat, r = .returned (.tuple #[.int .i64 (i : Int), .int .i64 (j : Int)]) ∧ (i ≤ j ∧ j ≤ xs.length) ∧ (es.take i = es.filter (fun x => lessL x.p q) ∧ segL es i j = atS es q ∧ es.drop j = es.filter (fun x => lessL q x.p)) ∧ Chg [] w w' := by
 have BIN := h_ (binp_any w A c xs es q h hx hn hl hq he)
 have HA := h_ h
 have HX := h_ hx
 have HNM := h_ hn
 have HL := h_ hl
 clear h hx hn hl hq he
 go_enter Tryz.func105, Tryz.ntmps105
 go_wp2_with fail
 refine BIN.out.mono ?_
 rintro r w1 ⟨i, hi, lo, hi2, ⟨v, rfl⟩, hc⟩
 have C1 := h_ hc
 have LO := h_ (And.intro lo hi2)
 have HI := h_ hi
 clear hi lo hi2 hc BIN; go_wp2
 go_loopw [8] (fun v8 wr => ∃ (j : Nat), i ≤ j ∧ j ≤ xs.length ∧ v8 = .int .i64 (j : Int) ∧ Hid (∀ p x, es[p]? = some x → i ≤ p → p < j → x.p = q) ∧ Hid (Chg [] w wr)) (fun v8 _ => xs.length - (RowKit.intOf v8).toNat)
 case atStart => exact ⟨i, Nat.le_refl _, HI.out, rfl, h_ (fun p x _ a b => absurd b (by omega)), C1⟩
 case round =>
  obtain ⟨j, hij, hj, rfl, MID, HC⟩ := hrel
  have j0 : (0 : Int) ≤ (j : Int) := by omega
  have FIN : Hid ((∀ x, es[j]? = some x → x.p ≠ q) → es.take i = es.filter (fun x => lessL x.p q) ∧ segL es i j = atS es q ∧ es.drop j = es.filter (fun x => lessL q x.p)) := h_ (fun st => place_parts HNM.out hij (by have := HX.out.1; omega) LO.out.1 LO.out.2 MID.out st)
  by_cases hlt : j < xs.length
  ·
   have j1 : (j : Int) < (xs.length : Int) := by omega
   have j3 : IntKind.i64.wrap ((j : Int) + 1) = (j : Int) + 1 := IntWalk.i64_in _ (by have := HL.out; omega)
   obtain ⟨x, e, ex, ee, rx⟩ := HX.out.at_ hlt
   obtain ⟨g, o, eA, _⟩ := HA.out.line (by omega)
   subst eA
   obtain ⟨z0, z1, z2, z3, z4, z5, z6⟩ := evCells (HA.out.chg HC.out (by simp)) ex
   rw [rx.p] at z2
   have EE := h_ ee
   clear ex ee rx
   by_cases hp : e.p = q
   ·
    have MID1 : Hid (∀ p x, es[p]? = some x → i ≤ p → p < j + 1 → x.p = q) := h_ (fun p x hx a b => by
     by_cases t : p = j
     ·
      subst t; rw [EE.out] at hx; cases hx; exact hp
     ·
      exact MID.out p x hx a (by omega))
    clear MID FIN; go_wp2; go_round
    case rel => exact ⟨j + 1, by omega, by omega, by go_num, MID1, HC⟩
    case measure => simp [RowKit.intOf]; omega
   ·
    have e6 : (e.p == q) = false := beq_eq_false_iff_ne.2 hp
    have F := h_ (FIN.out (fun y hy => by rw [EE.out] at hy; cases hy; exact hp))
    have LE := h_ (And.intro hij hj)
    clear FIN; go_wp2; go_ret2
    exact ⟨i, j, rfl, LE.out, F.out, HC.out⟩
  ·
   have j1 : ¬ (j : Int) < (xs.length : Int) := by omega
   have j2 : decide ((j : Int) < (xs.length : Int)) = false := by simp; omega
   have F := h_ (FIN.out (fun y hy => absurd (List.getElem?_eq_some_iff.1 hy).1 (by have := HX.out.1; omega)))
   have LE := h_ (And.intro hij hj)
   clear FIN; go_wp2; go_ret2
   exact ⟨i, j, rfl, LE.out, F.out, HC.out⟩
end
section
open Go.RowKit Go.Lib


def elseQ (f e : EvP) : Bool := decide (e.n = f.n ∧ e.s = f.s) && !decide (e.p = f.p)
theorem elseE_is (s : List EvP) (f : EvP) : elseE s f = s.any (elseQ f) := rfl
set_option maxRecDepth 100000 in
theorem stput1_any (w : World) (gp : Nat) (x y : EvT) (e f : EvP) (hp : w.heap[gp]? = some (.cells #[.int .i64 y.n, .int .i64 y.s, .string y.p, .int .i64 y.k, .int .i64 y.m, .slice y.A y.l y.c, .slice y.B y.bl y.bc] 40 (0, 0))) (hx : EvR w x e) (hy : EvR w y f) :
  Calls Tryz.prog 104 #[.agg #[.int .i64 x.n, .int .i64 x.s, .string x.p, .int .i64 x.k, .int .i64 x.m, .slice x.A x.l x.c, .slice x.B x.bl x.bc], .pointer (some ⟨gp, 0, none⟩)] w fun r w' => r = .returned (.bool (elseQ f e)) ∧ Chg [] w w' := by
 obtain ⟨w1, hw1, c1, b1⟩ := news1 w (.cells #[.int .i64 x.n, .int .i64 x.s, .string x.p, .int .i64 x.k, .int .i64 x.m, .slice x.A x.l x.c, .slice x.B x.bl x.bc] 40)
 have W1 := h_ hw1
 have C1 := h_ c1
 have p0 := c1.at_ hp (by simp)
 obtain ⟨y0, y1, y2⟩ := ce3 p0
 obtain ⟨z0, z1, z2⟩ := ce3 b1
 rw [hx.n] at z0
 rw [hx.s] at z1
 rw [hx.p] at z2
 rw [hy.n] at y0
 rw [hy.s] at y1
 rw [hy.p] at y2
 have NE : Hid (gp ≠ w.heap.size) := h_ (fun q => by have := lt_of_heap hp; omega)
 obtain ⟨en, hen⟩ : ∃ n, e.n = n := ⟨_, rfl⟩
 obtain ⟨es, hes⟩ : ∃ n, e.s = n := ⟨_, rfl⟩
 obtain ⟨fn, hfn⟩ : ∃ n, f.n = n := ⟨_, rfl⟩
 obtain ⟨fs, hfs⟩ : ∃ n, f.s = n := ⟨_, rfl⟩
 obtain ⟨ep, hep⟩ : ∃ n, e.p = n := ⟨_, rfl⟩
 obtain ⟨fp, hfp⟩ : ∃ n, f.p = n := ⟨_, rfl⟩
 have HV : Hid (elseQ f e = (decide (en = fn ∧ es = fs) && !decide (ep = fp))) := h_ (by unfold elseQ; rw [hen, hes, hfn, hfs, hep, hfp])
 rw [hen] at z0
 rw [hes] at z1
 rw [hep] at z2
 rw [hfn] at y0
 rw [hfs] at y1
 rw [hfp] at y2
 rw [HV.out]
 clear hw1 c1 b1 hp hx hy p0 hen hes hfn hfs hep hfp HV
 go_enter Tryz.func104, Tryz.ntmps104
 go_upto_region 1 with fail
 rw [← W1.out]
 generalize w.heap.size = g1 at *
 clear W1 NE
 by_cases h1 : en = fn
 ·
  subst h1
  by_cases h2 : es = fs
  ·
   subst h2
   by_cases h3 : ep = fp
   ·
    subst h3; go_wp2; go_ret
    exact ⟨by first | rfl | simp, C1.out⟩
   ·
    have h4 : (ep == fp) = false := beq_eq_false_iff_ne.2 h3
    have h5 : (ep != fp) = true := by simp [h3]
    go_wp2; go_ret
    exact ⟨by first | rfl | simp [h3], C1.out⟩
  ·
   have h4 : (es == fs) = false := beq_eq_false_iff_ne.2 h2
   go_wp2; go_ret
   exact ⟨by first | rfl | simp [h2], C1.out⟩
 ·
  have h4 : (en == fn) = false := beq_eq_false_iff_ne.2 h1
  go_wp2; go_ret
  exact ⟨by first | rfl | simp [h1], C1.out⟩
set_option maxRecDepth 100000 in
theorem strebuilt_any (w : World) (g c : Nat) (ps : List PartE) (hg : w.heap[g]? = some (.cells (ps.map partV).toArray 22 (0, 0))) (hr : ∀ p ∈ ps, RdK evTy w p.1 p.2.2.length p.2.2) (hn : sizeParts ps ≤ 100000) (hm : ps.length ≤ 1000) :
  Calls Tryz.prog 107 #[.slice (some ⟨g, 0, none⟩) ps.length c] w fun r w' => ∃ (A' : Option Addr) (c' : Nat), r = .returned (.slice A' (sizeParts ps) c') ∧ OwnK evTy w' A' c' (flatParts ps) ∧ (∀ a, A' = some a → w.heap.size ≤ a.block) ∧ Chg [] w w' := by
 have CC := h_ (evconcat_any w g c ps hg hr hn hm)
 clear hg hr hn hm
 go_enter Tryz.func107, Tryz.ntmps107
 go_wp2_with fail
 refine CC.out.mono ?_
 rintro r w1 ⟨A1, c1, rfl, ho, hA, hc⟩
 have P := h_ (And.intro ho (And.intro hA hc))
 clear ho hA hc CC; go_wp2; go_ret
 exact ⟨A1, c1, rfl, P.out.1, P.out.2.1, P.out.2.2⟩
end
section
open Go.RowKit Go.Lib


def subA (A : Option Addr) (c i : Nat) : Option Addr := if c = i then A else A.map (fun x => x.add (i * 7))
theorem seg_eq {α : Type} (l : List α) (i j : Nat) : segL l i j = (l.drop i).take (j - i) := by unfold segL; rw [List.drop_take]
theorem RdK.sub {w : World} {A : Option Addr} {c : Nat} {xs : List EvT} (h : RdK evTy w A xs.length xs) (hc : xs.length ≤ c) {i j : Nat} (ij : i ≤ j) (hj : j ≤ xs.length) : RdK evTy w (subA A c i) (j - i) (segL xs i j) := by
 rw [seg_eq]
 by_cases q : i < j
 ·
  obtain ⟨g, o, eA, _⟩ := h.line (by omega)
  subst eA
  have r := h.part i (j - i) (by omega)
  unfold subA
  rw [if_neg (by omega)]
  have k7 : evTy.k = 7 := rfl
  rw [k7] at r
  by_cases z : i = 0
  ·
   subst z
   simpa [Addr.add] using r
  ·
   have z7 : ¬ i * 7 = 0 := by omega
   simpa only [Option.map_some, Addr.add, z7, if_false] using r
 ·
  rw [show j - i = 0 by omega, List.take_zero]
  exact RdK.nil _ _
theorem EvsR.seg {w : World} {xs : List EvT} {es : List EvP} (h : EvsR w xs es) (i j : Nat) : EvsR w (segL xs i j) (segL es i j) := by
 refine ⟨by unfold segL; rw [List.length_drop, List.length_drop, List.length_take, List.length_take, h.1], fun k x e hx he => ?_⟩
 by_cases q : i + k < j
 ·
  rw [seg_get _ q] at hx he
  exact h.2 _ x e hx he
 ·
  rw [seg_get_no _ q] at hx
  cases hx
theorem EvsR.app {w : World} {xs ys : List EvT} {es fs : List EvP} (h : EvsR w xs es) (k : EvsR w ys fs) : EvsR w (xs ++ ys) (es ++ fs) := by
 refine ⟨by rw [List.length_append, List.length_append, h.1, k.1], fun i x e hx he => ?_⟩
 by_cases q : i < xs.length
 ·
  rw [List.getElem?_append_left q] at hx
  rw [List.getElem?_append_left (by rw [← h.1]; exact q)] at he
  exact h.2 _ x e hx he
 ·
  rw [List.getElem?_append_right (by omega)] at hx
  rw [List.getElem?_append_right (by rw [← h.1]; omega), ← h.1] at he
  exact k.2 _ x e hx he
theorem elseE_len (s : List EvP) (f : EvP) : (putS s f).length ≤ s.length + 1 := by
 unfold putS
 rw [List.length_append, List.length_append]
 have a : (putE (atS s f.p) f).length ≤ (atS s f.p).length + 1 := by
  have := puts_len [f] (atS s f.p)
  simpa using this
 have key : ∀ l : List EvP, (l.filter (fun x => lessL x.p f.p)).length + ((atS l f.p).length + (l.filter (fun x => lessL f.p x.p)).length) ≤ l.length := by
  intro l
  induction l with
  | nil => simp [atS]
  | cons x l ih =>
   unfold atS at ih ⊢
   simp only [List.filter_cons, List.length_cons]
   rcases less_tri x.p f.p with q | q | q
   ·
    have b1 : lessL f.p f.p = false := less_self _
    simp only [b1, q, decide_true, if_true, List.length_cons, Bool.false_eq_true, if_false]
    omega
   ·
    have b2 : lessL f.p x.p = false := less_not _ _ q
    have b3 : ¬ x.p = f.p := less_ne q
    simp only [q, b2, b3, decide_false, if_true, List.length_cons, Bool.false_eq_true, if_false]
    omega
   ·
    have b2 : lessL x.p f.p = false := less_not _ _ q
    have b3 : ¬ x.p = f.p := fun e => less_ne q e.symm
    simp only [q, b2, b3, decide_false, if_true, List.length_cons, Bool.false_eq_true, if_false]
    omega
 have := key s
 omega

set_option maxRecDepth 100000 in
theorem stputf_any (w : World) (A : Option Addr) (c : Nat) (xs : List EvT) (es : List EvP) (y : EvT) (f : EvP) (h : RdK evTy w A xs.length xs) (hc : xs.length ≤ c ∧ c ≤ maxLen) (hx : EvsR w xs es) (hn : xs.length ≤ 1000) (hs : ∀ e ∈ es, EvSm e ∧ e.q.length ≤ 100000) (hy : EvR w y f) (ht : EvSm f ∧ f.q.length ≤ 100000) (hl : es.Pairwise leP) (hok : ShOk (atS es f.p)) (hf : chkEv f = 0) :
  Calls Tryz.prog 60 #[.slice A xs.length c, .agg #[.int .i64 y.n, .int .i64 y.s, .string y.p, .int .i64 y.k, .int .i64 y.m, .slice y.A y.l y.c, .slice y.B y.bl y.bc]] w fun r w' => ∃ (A' : Option Addr) (c' : Nat) (zs : List EvT), r = .returned (.tuple #[.slice A' zs.length c', .int .i64 (if elseE es f = true then 7 else 0)]) ∧ (zs.length ≤ c' ∧ c' ≤ maxLen) ∧ RdK evTy w' A' zs.length zs ∧ EvsR w' zs (if elseE es f = true then [] else putS es f) ∧ Chg [] w w' := by

 obtain ⟨co, hco⟩ : ∃ co : Int, (if elseE es f = true then (7 : Int) else 0) = co := ⟨_, rfl⟩
 obtain ⟨ol, hol⟩ : ∃ ol : List EvP, (if elseE es f = true then [] else putS es f) = ol := ⟨_, rfl⟩
 rw [hco, hol]
 have CO := h_ hco
 have OL := h_ hol
 clear hco hol
 obtain ⟨w1, hw1, c1, b1⟩ := news1 w (.cells #[.int .i64 y.n, .int .i64 y.s, .string y.p, .int .i64 y.k, .int .i64 y.m, .slice y.A y.l y.c, .slice y.B y.bl y.bc] 40)
 have W1 := h_ hw1
 have C1 := h_ c1
 have B1 := h_ b1
 have HA := h_ (h.chg c1 (by simp))
 have HX := h_ (hx.chg c1)
 have HC := h_ hc
 have HN := h_ hn
 have HS := h_ hs
 have HY := h_ (hy.chg c1)
 have HT := h_ ht
 have HL := h_ hl
 have HOK := h_ hok
 have HF := h_ hf
 have CON := h_ (evfcontains_any w1 A c xs es 104 #[.pointer (some ⟨w.heap.size, 0, none⟩)] (elseQ f) (enters_of Tryz.func104 (by kernel_rfl) rfl) HA.out HX.out (by omega) (fun wr hc i x e ex ee => stput1_any wr w.heap.size x y e f (hc.at_ b1 (by simp)) ((HX.out.2 i x e ex ee).chg hc) (HY.out.chg hc)))
 clear hw1 c1 b1 h hx hc hn hs hy ht hl hok hf
 go_enter Tryz.func60, Tryz.ntmps60
 go_upto_region 1 with fail
 rw [← W1.out]
 obtain ⟨g1, hg1⟩ : ∃ g, w.heap.size = g := ⟨_, rfl⟩
 rw [hg1] at CON B1 ⊢
 clear W1; go_wp2_with fail
 refine CON.out.mono ?_
 rintro r w2 ⟨rfl, hc⟩
 have C2 := h_ hc
 clear hc CON
 rcases hv : es.any (elseQ f) with _ | _
 rotate_left
 ·
  have EV : Hid (elseE es f = true) := h_ hv
  clear hv
  have e1 : co = 7 := by rw [← CO.out, if_pos EV.out]
  have e2 : ol = [] := by rw [← OL.out, if_pos EV.out]
  subst e1 e2
  go_wp2; go_ret2
  exact ⟨none, 0, [], rfl, ⟨Nat.le_refl _, Nat.zero_le _⟩, RdK.nil _ _, EvsR.nil _, C1.out.trans C2.out⟩
 have EV : Hid (elseE es f = false) := h_ hv
 clear hv
 have e1 : co = 0 := by rw [← CO.out, if_neg (by rw [EV.out]; decide)]
 have e2 : ol = putS es f := by rw [← OL.out, if_neg (by rw [EV.out]; decide)]
 subst e1 e2
 clear CO OL
 have b2 := C2.out.at_ B1.out (by simp)
 have y2 := cell_of b2 2
 simp only [gA, gY, gZ] at y2
 rw [HY.out.p] at y2
 clear b2
 have PL := h_ (stplace_any w2 A c xs es f.p (HA.out.chg C2.out (by simp)) (HX.out.chg C2.out) HL.out (by have := HN.out; omega) HT.out.1.1 (fun e he => (HS.out e he).1.1))
 go_wp2_with fail; clear y2
 refine PL.out.mono ?_
 rintro r w3 ⟨i, j, rfl, ⟨hij, hj⟩, hp, hc⟩
 have C3 := h_ (C2.out.trans hc)
 have PP := h_ hp
 clear hp hc PL C2
 have i0 : (0 : Int) ≤ (i : Int) := by omega
 have j0 : (0 : Int) ≤ (j : Int) := by omega
 have ij1 : (i : Int) ≤ (j : Int) := by omega
 have jn1 : (j : Int) ≤ (xs.length : Int) := by omega
 have jc0 : j ≤ c := by have := HC.out; omega
 have ic0 : i ≤ c := by omega
 have jc1 : (j : Int) ≤ (c : Int) := by omega
 have ic1 : (i : Int) ≤ (c : Int) := by omega
 have RS : Hid (∀ w', Chg [] w1 w' → RdK evTy w' (subA A c i) (j - i) (segL xs i j)) := h_ (fun w' hc => (HA.out.chg hc (by simp)).sub HC.out.1 hij hj)
 have RE : Hid (∀ w', Chg [] w1 w' → RdK evTy w' (subA A c j) (xs.length - j) (xs.drop j)) := h_ (fun w' hc => by
  have q := (HA.out.chg hc (by simp)).sub HC.out.1 hj (Nat.le_refl _)
  rwa [seg_end] at q)
 have RB : Hid (∀ w', Chg [] w1 w' → RdK evTy w' A i (xs.take i)) := h_ (fun w' hc => by
  have q := (HA.out.chg hc (by simp)).sub HC.out.1 (Nat.zero_le i) (by omega)
  rw [seg_zero, Nat.sub_zero] at q
  unfold subA at q
  by_cases z : c = 0
  ·
   rwa [if_pos z] at q
  ·
   rw [if_neg z] at q
   rcases A with _ | ⟨bg, bo, bs⟩
   ·
    exact q
   ·
    simpa [Addr.add] using q)
 obtain ⟨AS, hAS⟩ : ∃ AS : Option Addr, (if c = i then A else A.map (fun x => x.add (i * 7))) = AS := ⟨_, rfl⟩
 obtain ⟨AE, hAE⟩ : ∃ AE : Option Addr, (if c = j then A else A.map (fun x => x.add (j * 7))) = AE := ⟨_, rfl⟩
 have SL : Hid (subA A c i = AS) := h_ hAS
 have SE : Hid (subA A c j = AE) := h_ hAE
 rw [SL.out] at RS
 rw [SE.out] at RE
 have SLEN : Hid ((segL xs i j).length = j - i) := h_ (seg_len xs hj)
 have MEM : Hid (∀ e ∈ atS es f.p, e ∈ es) := h_ (fun e he => (mem_atS.1 he).1)
 have SHP : Hid (∀ w', Chg [] w1 w' → Calls Tryz.prog 106 #[.slice AS (j - i) (c - i), .agg #[.int .i64 y.n, .int .i64 y.s, .string y.p, .int .i64 y.k, .int .i64 y.m, .slice y.A y.l y.c, .slice y.B y.bl y.bc]] w' fun r w2 => ∃ (A' : Option Addr) (c' : Nat) (zs : List EvT), r = .returned (.tuple #[.slice A' zs.length c', .int .i64 0]) ∧ EsF w2 w'.heap.size w2.heap.size A' c' zs (putE (atS es f.p) f) ∧ Chg [] w' w2) := h_ (fun w' hc => by
  have q := shput_any w' AS (c - i) (segL xs i j) (segL es i j) y f (by rw [SLEN.out]; exact RS.out w' hc) ((HX.out.chg hc).seg i j) (by rw [SLEN.out]; have := HN.out; omega) (fun e he => HS.out e (by rw [PP.out.2.1] at he; exact MEM.out e he)) (HY.out.chg hc) HT.out
  rw [PP.out.2.1, shPut_yes HOK.out HF.out (fun u hu => (mem_atS.1 (List.mem_of_getElem? hu)).2), SLEN.out] at q
  exact q)
 have HB : Hid (∀ w', Chg [] w1 w' → (w'.cell? ⟨g1, 0, none⟩ = some (.int .i64 y.n) ∧ w'.cell? ⟨g1, 1, none⟩ = some (.int .i64 y.s) ∧ w'.cell? ⟨g1, 2, none⟩ = some (.string y.p) ∧ w'.cell? ⟨g1, 3, none⟩ = some (.int .i64 y.k) ∧ w'.cell? ⟨g1, 4, none⟩ = some (.int .i64 y.m) ∧ w'.cell? ⟨g1, 5, none⟩ = some (.slice y.A y.l y.c) ∧ w'.cell? ⟨g1, 6, none⟩ = some (.slice y.B y.bl y.bc))) := h_ (fun w' hc => by
  have b := hc.at_ B1.out (by simp)
  exact ⟨cell_of b 0, cell_of b 1, cell_of b 2, cell_of b 3, cell_of b 4, cell_of b 5, cell_of b 6⟩)
 have HIJ := h_ (And.intro hij hj)
 go_upto_region 4 with fail
 refine wp_region_held_drew (S := fun w' => Chg [] w1 w') (by kernel_rfl) (C3.out.trans (Chg.refl [] w3).drew) (fun hHeld => ?_)
 refine sy 0 21 rfl rfl ?_; try simp only [Act.put, sA, s0, s1]
 refine sy 1 22 rfl rfl ?_; try simp only [Act.put, sA, s0, s1]
 refine sy 2 23 rfl rfl ?_; try simp only [Act.put, sA, s0, s1]
 refine sy 3 24 rfl rfl ?_; try simp only [Act.put, sA, s0, s1]
 refine sy 4 25 rfl rfl ?_ (hy := by (intro w hSw; (try dsimp only at hSw); have hq := HB.out _ hSw; obtain ⟨q0, q1, q2, q3, q4, q5, q6⟩ := hq; go_simp; try with_reducible rfl))
 try simp only [Act.put, sA, s0, s1]
 refine on1 5 rfl (fun K hK => ?_)
 go_simp
 refine (SHP.out _ hHeld).mono ?_
 rintro r w5 ⟨A5, c5, zs, rfl, he, hc⟩
 have C5 := h_ (hHeld.trans hc)
 have RZ := h_ he.row.reads
 have EZ := h_ he.all.ev
 clear he hc hHeld
 refine hK.out _ _ C5.out (fun hHeld => ?_)
 clear hK K; try simp only [Act.put, sA, s0, s1]
 refine sy 6 20 rfl rfl ?_; try simp only [Act.put, sA, s0, s1]
 refine sy 7 27 rfl rfl ?_; try simp only [Act.put, sA, s0, s1]
 refine sy 8 28 rfl rfl ?_; try simp only [Act.put, sA, s0, s1]
 refine sy 9 8 rfl rfl ?_; try simp only [Act.put, sA, s0, s1]
 refine sy 10 9 rfl rfl ?_; try simp only [Act.put, sA, s0, s1]
 refine wpAnyH_done (by kernel_rfl) ?_ _; clear hHeld HB SHP; go_wp2
 have ZLN : Hid (zs.length = (putE (atS es f.p) f).length) := h_ EZ.out.1
 have PLEN : Hid (i + (zs.length + (xs.length - j)) = (putS es f).length) := h_ (by
  have a := PP.out
  unfold putS
  rw [List.length_append, List.length_append, ← ZLN.out, ← a.1, ← a.2.2, List.length_take, List.length_drop, ← HX.out.1, Nat.min_eq_left (by have := HIJ.out; omega)])
 have PARTS : Hid (∀ w' g, Chg [] w5 w' → w'.heap[g]? = some (.cells #[.slice A i c, .slice A5 zs.length c5, .slice AE (xs.length - j) (c - j)] 22 (0, 0)) → Calls Tryz.prog 107 #[.slice (some ⟨g, 0, none⟩) 3 3] w' fun r w2 => ∃ (A' : Option Addr) (c' : Nat), r = .returned (.slice A' (putS es f).length c') ∧ OwnK evTy w2 A' c' (xs.take i ++ (zs ++ xs.drop j)) ∧ Chg [] w' w2) := h_ (fun w' g hc hg => by
  have ti : (xs.take i).length = i := by rw [List.length_take]; have := HIJ.out; omega
  have tj : (xs.drop j).length = xs.length - j := List.length_drop
  have q := strebuilt_any w' g 3 [(A, c, xs.take i), (A5, c5, zs), (AE, c - j, xs.drop j)] (by simpa [partV, ti, tj] using hg) (fun p hp => by
   simp at hp
   rcases hp with rfl | rfl | rfl
   ·
    rw [ti]; exact RB.out w' (C5.out.trans hc)
   ·
    exact RZ.out.chg hc (by simp)
   ·
    rw [tj]; exact RE.out w' (C5.out.trans hc)) (by
   simp [sizeParts, ti, tj]
   have a := PLEN.out
   have b := elseE_len es f
   have d := HX.out.1
   have e := HN.out
   omega) (by simp)
  have fp : flatParts [(A, c, xs.take i), (A5, c5, zs), (AE, c - j, xs.drop j)] = xs.take i ++ (zs ++ xs.drop j) := by simp [flatParts]
  have sp : sizeParts [(A, c, xs.take i), (A5, c5, zs), (AE, c - j, xs.drop j)] = (putS es f).length := by
   rw [← PLEN.out]
   simp [sizeParts]
   have := HIJ.out
   omega
  rw [fp, sp] at q
  refine q.mono ?_
  rintro r w2 ⟨A', c', e1, e2, _, e3⟩
  exact ⟨A', c', e1, e2, e3⟩)
 have LEN7 : Hid ((putS es f).length = (xs.take i ++ (zs ++ xs.drop j)).length) := h_ (by
  rw [← PLEN.out, List.length_append, List.length_append, List.length_take, List.length_drop]
  have := HIJ.out
  omega)
 clear RB RE RS
 go_upto_region 7 with fail
 refine wp_region_held_drew (S := fun _ => True) (by kernel_rfl) trivial (fun hHeld => ?_)
 have C6 := h_ (Chg.refl [] w5).drew
 clear hHeld
 have hHeld := trivial
 generalize w5.drew = w6 at *
 refine sy 0 32 rfl rfl ?_ (hS := trivial)
 try simp only [Act.put, sA, s0, s1]
 refine sy 1 33 rfl rfl ?_ (hS := trivial)
 try simp only [Act.put, sA, s0, s1]
 refine sy 2 34 rfl rfl ?_ (hS := trivial)
 try simp only [Act.put, sA, s0, s1]
 refine sy 3 35 rfl rfl ?_ (hS := trivial)
 try simp only [Act.put, sA, s0, s1]
 refine sy 4 36 rfl rfl ?_ (hS := trivial)
 try simp only [Act.put, sA, s0, s1]
 refine sy 5 37 rfl rfl ?_ (hS := trivial)
 try simp only [Act.put, sA, s0, s1]
 refine sy 6 38 rfl rfl ?_ (hS := trivial)
 try simp only [Act.put, sA, s0, s1]
 refine on1 7 rfl (fun K hK => ?_)
 go_simp
 obtain ⟨g7, hg7⟩ : ∃ g, w6.heap.size = g := ⟨_, rfl⟩
 obtain ⟨w7, hw, cn, bn⟩ := news1 w6 (.cells #[.slice A i c, .slice A5 zs.length c5, .slice AE (xs.length - j) (c - j)] 22)
 rw [← hw, hg7]
 rw [hg7] at bn
 have CALL := h_ (PARTS.out w7 g7 (C6.out.trans cn) bn)
 have C7 := h_ (C6.out.trans cn)
 clear hw cn bn
 refine hK.out _ _ trivial (fun hHeld => ?_)
 clear hK K; try simp only [Act.put, sA, s0, s1]
 refine on1 8 rfl (fun K hK => ?_)
 go_simp
 refine CALL.out.mono ?_
 rintro r w8 ⟨A8, c8, rfl, ho, hc⟩
 have O8 := h_ ho
 have C8 := h_ (C7.out.trans hc)
 clear ho hc CALL
 refine hK.out _ _ trivial (fun hHeld => ?_)
 clear hK K; try simp only [Act.put, sA, s0, s1]
 refine sy 9 4 rfl rfl ?_ (hS := trivial)
 try simp only [Act.put, sA, s0, s1]
 refine sy 10 5 rfl rfl ?_ (hS := trivial)
 try simp only [Act.put, sA, s0, s1]
 refine wpAnyH_done (by kernel_rfl) ?_ _; clear hHeld PARTS
 have EV8 : Hid (EvsR w8 (xs.take i ++ (zs ++ xs.drop j)) (putS es f)) := h_ (by
  have a := PP.out
  have e := HX.out.chg (C5.out.trans C8.out)
  have r1 := e.seg 0 i
  have r2 := e.seg j xs.length
  rw [seg_zero, seg_zero] at r1
  rw [seg_end, HX.out.1, seg_end] at r2
  unfold putS
  rw [← a.1, ← a.2.2]
  exact r1.app ((EZ.out.chg C8.out).app r2))
 have R8 : Hid (RdK evTy w8 A8 (putS es f).length (xs.take i ++ (zs ++ xs.drop j))) := h_ (by rw [LEN7.out]; exact O8.out.reads)
 go_wp2; go_ret2
 rw [LEN7.out]
 exact ⟨A8, c8, _, rfl, O8.out.cap, LEN7.out ▸ R8.out, EV8.out, C1.out.trans (C5.out.trans C8.out)⟩
end
section
open Go.RowKit

def KeepsTwo (m : Nat) (w w' : World) : Prop := w'.heap[m]? = w.heap[m]? ∧ w'.heap[m + 1]? = w.heap[m + 1]?
theorem KeepsTwo.of_chg {m : Nat} {S : List Nat} {w w' : World} (h : Chg S w w') (hS : ∀ k ∈ S, k < m) (hm : m + 2 ≤ w.heap.size) : KeepsTwo m w w' :=
 ⟨h.block m (by omega) (fun q => by have := hS m q; omega), h.block (m + 1) (by omega) (fun q => by have := hS _ q; omega)⟩
def brkPostM {α : Type} (m : Nat) (I : List α → World → Prop) (Ix : Code → List α → World → Prop) (n₁ : Nat) (T : List Nat) (xs : List α) (W : World) : Exit → Act → World → Prop
 | .normal, _, W' => KeepsTwo m W W' ∧ Kpt n₁ T W W' ∧ I xs W'
 | .ret, _, W' => KeepsTwo m W W' ∧ Ix .ret xs W'
 | .exit id, _, W' => KeepsTwo m W W' ∧ Ix (.exit id) xs W'
 | _, _, _ => False

theorem range_brkm {α : Type} {P : Program} {n : Nat} {g : Operand} {ps : Array Tmp} {assign body : Code} {Q : Exit → Act → World → Prop} {a : Act} {w : World} {gf : Nat} {lb : Array Value}
  (hg : a.eval g = .func (.func gf) #[] lb) (eg : ∀ args w, (callFunc gf args).run P w = .ok (.enter gf args) w) {encs : α → Array Value} {S Sp : List α → Prop} {Ex : List α → α → World → Prop} {n₁ : Nat} (hn₁ : n₁ ≤ w.heap.size) {Si T : List Nat} (hSi : ∀ x ∈ Si, x < w.heap.size)
  (hseq : ∀ (l : Nat) (J Jx : List α → World → Prop) (W : World), Below w.heap.size w W → (∀ pre A B, J pre A → Kpt W.heap.size Si A B → J pre B) → (∀ pre A B, Jx pre A → Kpt W.heap.size Si A B → Jx pre B) →
   (∀ pre x W1, J pre W1 → Ex pre x W1 → YieldAt Fence.wide (n - 1 - 1) P l (encs x) W1 fun e W' => (e = .returned (.bool true) ∧ J (pre ++ [x]) W' ∧ Kpt n₁ T W1 W') ∨ (e = .returned (.bool false) ∧ Jx (pre ++ [x]) W')) →
   J [] W → CallsIn Fence.wide (n - 1) P gf (#[.func (.yield l) #[] #[]] ++ lb) W fun e W' => (∃ v, e = .returned v) ∧ ((∃ xs, S xs ∧ J xs W') ∨ ∃ xs, Sp xs ∧ Jx xs W'))
  (hps : ∀ x, (encs x).size = ps.size) (I : List α → World → Prop) (Ix : Code → List α → World → Prop) (hI : ∀ pre A B, I pre A → Kpt w.heap.size Si A B → I pre B) (hIx : ∀ c pre A B, Ix c pre A → Kpt w.heap.size Si A B → Ix c pre B) (h0 : I [] w)
  (hEx : ∀ pre x W l o o', W.heap[l]? = some o → o.isCells = false → Ex pre x W → Ex pre x (W.putObj l o')) (a₁ : α → Act)
  (hassign : ∀ (l : Nat) (x : α) (W : World) (K : Act → World → Prop), K (a₁ x) W →
   assign.wpIn (Fence.wide.inRound l) (n - 1 - 1) P (Exit.then K (fun _ _ _ => False)) { tmps := (ps.zip (encs x)).foldl (fun t (p, v) => t.setIfInBounds p v) a.tmps, defers := [] } W)
  (hbody : ∀ (l : Nat) (pre : List α) (x : α) (W : World), w.heap.size + 2 ≤ W.heap.size → I pre W → Ex pre x W → body.wpIn (Fence.wide.inRound l) (n - 1 - 1) P (brkPostM w.heap.size I Ix n₁ T (pre ++ [x]) W) (a₁ x) W)
  (hdone : ∀ (D : Nat) (xs : List α) (W : World), w.heap.size ≤ D → S xs → I xs W → W.heap[D]? = some (.deferred (some [])) → Q .normal { a with defers := { target := .collected D, args := #[] } :: a.defers } W)
  (hstop : ∀ (D : Nat) (c : Code) (xs : List α) (W : World), w.heap.size ≤ D → Sp xs → Ix c xs W → W.heap[D]? = some (.deferred (some [])) → c.wpIn Fence.wide n P Q { a with defers := { target := .collected D, args := #[] } :: a.defers } W) :
  (Code.rangeFunc g ps assign body).wpIn Fence.wide n P Q a w := by
 refine wpIn_rangeFunc ?_
 intro fn hfn
 obtain ⟨rc, hrc⟩ : ∃ rc : LoopState → Option Code → Loop, rc = fun st pe => { state := st, pending := pe, fn, tmps := a.tmps, params := ps, assign, body, defers := w.heap.size } := ⟨_, rfl⟩
 obtain ⟨V, hV, hcV, hD0, hL0⟩ := news2 w (.deferred (some [])) (.loop (rc .ready none))
 have hsV : V.heap.size = w.heap.size + 2 := by rw [hV]; simp
 have bV : Below w.heap.size w V := by rw [hV]; exact ((Below.refl _ w).alloc (Nat.le_refl _) _).alloc (by simp) _
 refine ⟨w.heap.size + 1, [{ target := .collected w.heap.size, args := #[] }], V, { target := .fn (.func gf) lb, args := #[.func (.yield (w.heap.size + 1)) #[] #[]] }, V, gf,
  #[.func (.yield (w.heap.size + 1)) #[] #[]] ++ lb, V, ?_, ?_, fun _ _ => trivial, ?_, fun h => by simp [Fence.wide] at h, ?_⟩
 ·
  rw [hV, hrc]; exact run_enterLoop_outer _ _ _ _ _
 ·
  simp only [resolve, hg]
  simp [go_sem]
 ·
  simp [invoke, go_sem, eg]
 ·
  -- the record and the row of deferred calls, turned or not, lie at or behind w's end
  have turn : ∀ (W : World) (o : Obj) (o' : Obj), W.heap[w.heap.size + 1]? = some o → o.isCells = false → o.isWalk = false → ∀ m, m ≤ w.heap.size → Below m W (W.putObj (w.heap.size + 1) o') :=
   fun W o o' h hc hw m hm => belowK_b (w := w) hm W _ o o' (by omega) h hc hw
  have far : ∀ k, w.heap.size ≤ k → k ∉ Si := fun k hk h => by have := hSi k h; omega
  refine (hseq (w.heap.size + 1) (fun pre W => I pre W ∧ W.heap[w.heap.size + 1]? = some (.loop (rc .ready none)) ∧ W.heap[w.heap.size]? = some (.deferred (some [])))
   (fun pre W => ∃ c, Ix c pre W ∧ W.heap[w.heap.size + 1]? = some (.loop (rc .done (some c))) ∧ W.heap[w.heap.size]? = some (.deferred (some []))) V bV ?_ ?_ ?_
   ⟨hI _ _ _ h0 (Kpt.of_below bV (Nat.le_refl _)), hL0, hD0⟩).mono ?_
  ·
   rintro pre A B ⟨hi, hl, hk⟩ hb
   exact ⟨hI _ _ _ hi (hb.mono (by omega) (fun _ h => h)), (hb.block _ (by omega) (far _ (by omega))).trans hl, (hb.block _ (by omega) (far _ (Nat.le_refl _))).trans hk⟩
  ·
   rintro pre A B ⟨c, hi, hl, hk⟩ hb
   exact ⟨c, hIx _ _ _ _ hi (hb.mono (by omega) (fun _ h => h)), (hb.block _ (by omega) (far _ (by omega))).trans hl, (hb.block _ (by omega) (far _ (Nat.le_refl _))).trans hk⟩
  ·
   rintro pre x W ⟨hi, hl, hk⟩ hx
   have hlt := lt_of_heap hl
   have hy := run_yield (P := P) (args := encs x) hl (by rw [hrc]; exact hps x)
   rw [hrc] at hy
   refine ⟨fn, _, assign, body, hy, roundIn_of_wpIn hfn (hassign _ x W _ ⟨_, run_beginRound hl (by rw [hrc]), ?_⟩)⟩
   have hl2 : (W.putObj (w.heap.size + 1) (.loop { rc .ready none with state := .busy })).heap[w.heap.size + 1]? = some (.loop { rc .ready none with state := .busy }) := World.putObj_heap_same hlt
   have hk2 : (W.putObj (w.heap.size + 1) (.loop { rc .ready none with state := .busy })).heap[w.heap.size]? = some (.deferred (some [])) := (World.putObj_heap_other (by omega)).trans hk
   have b2 := turn W _ (.loop { rc .ready none with state := .busy }) hl rfl rfl
   refine wpIn_mono (hbody _ pre x _ (lt_of_heap hl2) (hI _ _ _ hi (Kpt.of_below (b2 _ (Nat.le_refl _)) (Nat.le_refl _))) (hEx pre x W _ _ _ hl rfl hx)) ?_
   have fin : ∀ (c : Code) (W3 : World), KeepsTwo w.heap.size (W.putObj (w.heap.size + 1) (.loop { rc .ready none with state := .busy })) W3 → Ix c (pre ++ [x]) W3 →
     ∃ v w', (Instr.endRound (w.heap.size + 1) (some c)).run P W3 = .ok v w' ∧ ((Ending.returned v = .returned (.bool true) ∧ (I (pre ++ [x]) w' ∧ w'.heap[w.heap.size + 1]? = some (.loop (rc .ready none)) ∧ w'.heap[w.heap.size]? = some (.deferred (some []))) ∧ Kpt n₁ T W w') ∨
      (Ending.returned v = .returned (.bool false) ∧ ∃ c, Ix c (pre ++ [x]) w' ∧ w'.heap[w.heap.size + 1]? = some (.loop (rc .done (some c))) ∧ w'.heap[w.heap.size]? = some (.deferred (some [])))) := by
    intro c W3 hk3 hi3
    have hl3 := hk3.2.trans hl2
    have hd3 := hk3.1.trans hk2
    have hr := run_endRound (P := P) (some c) hl3
    have b4 := turn W3 _ (.loop (rc .done (some c))) hl3 rfl rfl
    refine ⟨_, _, hr, .inr ⟨rfl, c, ?_, ?_, ?_⟩⟩
    ·
     have := hIx _ _ _ _ hi3 (Kpt.of_below (b4 _ (Nat.le_refl _)) (Nat.le_refl _))
     rw [hrc] at this ⊢
     exact this
    ·
     rw [hrc]; exact World.putObj_heap_same (lt_of_heap hl3)
    ·
     exact (World.putObj_heap_other (by omega)).trans hd3
   rintro e a3 W3 hp
   cases e with
   | normal =>
    obtain ⟨hk3, hb3, hi3⟩ := hp
    have hl3 := hk3.2.trans hl2
    have hd3 := hk3.1.trans hk2
    have hr := run_endRound (P := P) none hl3
    have b4 := turn W3 _ (.loop (rc .ready none)) hl3 rfl rfl
    refine ⟨_, _, hr, .inl ⟨rfl, ⟨?_, ?_, ?_⟩, ?_⟩⟩
    ·
     have := hI _ _ _ hi3 (Kpt.of_below (b4 _ (Nat.le_refl _)) (Nat.le_refl _))
     rw [hrc] at this ⊢
     exact this
    ·
     rw [hrc]; exact World.putObj_heap_same (lt_of_heap hl3)
    ·
     exact (World.putObj_heap_other (by omega)).trans hd3
    ·
     have := ((Kpt.of_below (T := T) (b2 _ hn₁) (Nat.le_refl _)).trans hb3).trans (Kpt.of_below (b4 _ hn₁) (Nat.le_refl _))
     rw [hrc] at this ⊢
     exact this
   | ret => exact fin .ret W3 hp.1 hp.2
   | exit id => exact fin (.exit id) W3 hp.1 hp.2
   | goto t => exact hp.elim
   | panic ch => exact hp.elim
   | outgrown => exact hp.elim
  ·
   rintro e W2 ⟨⟨v, rfl⟩, (⟨xs, hS, hi, hl, hk⟩ | ⟨xs, hS, c, hi, hl, hk⟩)⟩
   ·
    refine ⟨none, _, by have := run_endLoop (P := P) hl (by rw [hrc]; simp); rw [hrc] at this; exact this, hdone _ xs _ (Nat.le_refl _) hS ?_ ((World.putObj_heap_other (by omega)).trans hk)⟩
    exact hI _ _ _ hi (Kpt.of_below (turn W2 _ _ hl rfl rfl _ (Nat.le_refl _)) (Nat.le_refl _))
   ·
    refine ⟨some c, _, by have := run_endLoop (P := P) hl (by rw [hrc]; simp); rw [hrc] at this; exact this, hstop _ c xs _ (Nat.le_refl _) hS ?_ ((World.putObj_heap_other (by omega)).trans hk)⟩
    exact hIx _ _ _ _ hi (Kpt.of_below (turn W2 _ _ hl rfl rfl _ (Nat.le_refl _)) (Nat.le_refl _))
end
section
open Go.RowKit Go.Lib


attribute [local go_sem] Oper.semAt_some
def endRun (pre : List (Nat × Nat)) : Nat := (pre.getLast?.map (fun x => x.2)).getD 0
theorem endRun_nil : endRun [] = 0 := rfl
theorem endRun_snoc (pre : List (Nat × Nat)) (x : Nat × Nat) : endRun (pre ++ [x]) = x.2 := by unfold endRun; simp
def runA (A : Option Addr) (k : Nat) : Option Addr := A.map (fun x => x.add (k * 7))
theorem runA_some (g o k : Nat) : runA (some ⟨g, o, none⟩) k = some ⟨g, o + k * 7, none⟩ := by
 unfold runA
 by_cases z : k = 0
 ·
  subst z
  simp [Addr.add]
 ·
  have z7 : ¬ k * 7 = 0 := by omega
  simp only [Option.map_some, Addr.add, z7, if_false]
theorem runA_sub {A : Option Addr} {c k : Nat} (h : c ≠ k) : runA A k = subA A c k := by unfold runA subA; rw [if_neg h]
theorem struns_any (w : World) (A : Option Addr) (n c : Nat) : Calls Tryz.prog 64 #[.slice A n c] w fun e w' =>
  e = .returned (.func (.func 112) #[] #[.pointer (some ⟨w.heap.size, 0, none⟩)]) ∧ w' = w.alloc (.cells #[.slice A n c] 22) := by
 go_enter Tryz.func64, Tryz.ntmps64
 go_wp2; go_ret
 exact ⟨by simp, rfl⟩
set_option maxRecDepth 100000 in
theorem runs1_gives (n l n₁ bs : Nat) (T : List Nat) (A : Option Addr) (c : Nat) (xs : List EvT) (es : List EvP)
  (J Jx : List (Nat × Nat) → World → Prop) (W : World) (hb : bs < n₁) (hT : bs ∉ T) (hn₁ : n₁ ≤ W.heap.size) (hA : xs = [] ∨ ∀ a, A = some a → a.block < n₁ ∧ a.block ∉ T)
  (hJ : ∀ pre A B, W.heap.size ≤ A.heap.size → J pre A → Chg [] A B → J pre B) (hl : xs.length = es.length) (hp : ∀ (i : Nat) (x : EvT) (e : EvP), xs[i]? = some x → es[i]? = some e → x.p = strOf e.p) (hr : RdK evTy W A xs.length xs) (hc : xs.length ≤ c) (hn : xs.length ≤ 100000)
  (hs : W.heap[bs]? = some (.cells #[.slice A xs.length c] 22 (0, 0)))
  (hY : ∀ pre x W1, J pre W1 → (x.1 = endRun pre ∧ RunAt es x.1 x.2) → YieldAt Fence.wide n Tryz.prog l #[.slice (runA A x.1) (x.2 - x.1) (x.2 - x.1)] W1 fun e W' => (e = .returned (.bool true) ∧ J (pre ++ [x]) W' ∧ Kpt n₁ T W1 W') ∨ (e = .returned (.bool false) ∧ Jx (pre ++ [x]) W'))
  (h0 : J [] W) :
  CallsIn Fence.wide (n + 1) Tryz.prog 112 #[.func (.yield l) #[] #[], .pointer (some ⟨bs, 0, none⟩)] W fun e W' => (∃ v, e = .returned v) ∧ ((∃ ys, endRun ys = es.length ∧ J ys W') ∨ ∃ ys, True ∧ Jx ys W') := by
 have h1 : 1 ≤ n + 1 := by omega
 have hro : Fence.wide.round = none := rfl
 have HS := h_ hs
 have HL := h_ hl
 have HP := h_ hp
 have HR := h_ hr
 have HC := h_ hc
 have HN := h_ hn
 have HA := h_ hA
 have HB := h_ (And.intro hb (And.intro hT hn₁))
 have HJ := h_ hJ
 have HY := h_ hY
 clear hs hl hp hr hc hn hA hb hT hn₁ hJ hY
 refine callsIn_of_wp Tryz.func112 rfl trivial ?_ hro
 simp only [Tryz.ntmps112, List.size_toArray, List.length_cons, List.length_nil, Nat.reduceAdd, Nat.reduceSub, Array.replicate_succ, Array.replicate_zero, List.push_toArray, List.append_toArray, List.nil_append, List.cons_append]
 gi_wp2
 gi_loopw [3, 4] (fun v3 v4 wr => ∃ (pre : List (Nat × Nat)) (k : Nat), k = endRun pre ∧ k ≤ xs.length ∧ v3 = .int .i64 (k : Int) ∧ v4 = .int .i64 (k : Int) ∧ Hid (J pre wr) ∧ Hid (Kpt n₁ T W wr))
  (fun v3 _ _ => xs.length - (RowKit.intOf v3).toNat)
 case atStart => exact ⟨[], 0, rfl, Nat.zero_le _, rfl, rfl, h_ h0, h_ (Kpt.refl _ _ _)⟩
 case round =>
  obtain ⟨pre, k, hk, hkl, rfl, rfl, JP, KP⟩ := hrel
  have HK := h_ hk
  clear hk
  have CB : Hid (∀ w', Chg [] wr w' → w'.cell? ⟨bs, 0, none⟩ = some (.slice A xs.length c)) := h_ (fun w' hc => by
   have q := hc.at_ ((KP.out.block bs HB.out.1 HB.out.2.1).trans HS.out) (by simp)
   simpa using cell_of q 0)
  have cb := CB.out wr (Chg.refl [] wr)
  have k0 : (0 : Int) ≤ (k : Int) := by omega
  by_cases hlt : k < xs.length
  ·
   have k1 : (k : Int) < (xs.length : Int) := by omega
   have RX : Hid (∀ w', Chg [] wr w' → RdK evTy w' A xs.length xs) := h_ (fun w' hc => (HR.out.kpt KP.out (HA.out.resolve_left (by intro q; rw [q] at hlt; simp at hlt))).chg hc (by simp))
   obtain ⟨g, o, eA, _⟩ := (RX.out wr (Chg.refl [] wr)).line (by omega)
   subst eA
   obtain ⟨x, hx⟩ : ∃ x, xs[k]? = some x := ⟨_, List.getElem?_eq_getElem hlt⟩
   obtain ⟨b, eb⟩ : ∃ b, es[k]? = some b := ⟨_, List.getElem?_eq_getElem (by have := HL.out; omega)⟩
   have XB : Hid (∀ w', Chg [] wr w' → w'.cell? ⟨g, o + k * 7 + 2, none⟩ = some (.string (strOf b.p))) := h_ (fun w' hc => by
    have q := (evCells (RX.out w' hc) hx).2.2.1
    rwa [HP.out k x b hx eb] at q)
   have EB := h_ eb
   have HLT := h_ hlt
   clear hx eb
   gi_wp2
   clear cb
   generalize wr = wo at *
   clear wr
   gi_loopw [4] (fun v4 wr => ∃ (j : Nat), k ≤ j ∧ j ≤ xs.length ∧ v4 = .int .i64 (j : Int) ∧ Hid (∀ i, k ≤ i → i < j → pathE es i = pathE es k) ∧ Hid (Chg [] wo wr)) (fun v4 _ => xs.length - (RowKit.intOf v4).toNat)
   case atStart => exact ⟨k, Nat.le_refl _, hkl, rfl, h_ (fun i a b => absurd b (by omega)), h_ (Chg.refl [] _)⟩
   case round =>
    obtain ⟨j, hkj, hj, rfl, SM, CQ⟩ := hrel
    have j0 : (0 : Int) ≤ (j : Int) := by omega
    have CD : Hid (Chg [] wo wr.drew) := h_ (CQ.out.trans (Chg.refl [] wr).drew)
    have NEXT : Hid (k < j → RunAt es k j → YieldAt Fence.wide n Tryz.prog l #[.slice (runA (some ⟨g, o, none⟩) k) (j - k) (j - k)] wr.drew fun e W' => (e = .returned (.bool true) ∧ J (pre ++ [(k, j)]) W' ∧ Kpt n₁ T wr.drew W') ∨ (e = .returned (.bool false) ∧ Jx (pre ++ [(k, j)]) W')) := h_ (fun _ q => HY.out pre (k, j) wr.drew (HJ.out _ _ _ KP.out.size JP.out CD.out) ⟨HK.out, q⟩)
    by_cases hjl : j < xs.length
    ·
     have j1 : (j : Int) < (xs.length : Int) := by omega
     have j2 : decide ((j : Int) < (xs.length : Int)) = true := decide_eq_true j1
     have j3 : IntKind.i64.wrap ((j : Int) + 1) = (j : Int) + 1 := IntWalk.i64_in _ (by have := HN.out; omega)
     obtain ⟨y, hy⟩ : ∃ y, xs[j]? = some y := ⟨_, List.getElem?_eq_getElem hjl⟩
     obtain ⟨f, ef⟩ : ∃ f, es[j]? = some f := ⟨_, List.getElem?_eq_getElem (by have := HL.out; omega)⟩
     have YB : Hid (∀ w', Chg [] wo w' → w'.cell? ⟨g, o + j * 7 + 2, none⟩ = some (.string (strOf f.p))) := h_ (fun w' hc => by
      have q := (evCells (RX.out w' hc) hy).2.2.1
      rwa [HP.out j y f hy ef] at q)
     have EF := h_ ef
     clear hy ef
     gi_wp2
     refine wpIn_wide.2 ?_
     refine wp_region_held_drew (S := fun w' => Chg [] wo w') (by kernel_rfl) CD.out (fun hHeld => ?_)
     refine sy 0 10 rfl rfl ?_; try simp only [Act.put, sA, s0, s1]
     refine sy 1 11 rfl rfl ?_ (hy := by (intro w hSw; (try dsimp only at hSw); have q0 := CB.out _ hSw; go_simp; try with_reducible rfl))
     try simp only [Act.put, sA, s0, s1]
     refine sy 2 12 rfl rfl ?_; try simp only [Act.put, sA, s0, s1]
     refine sy 3 13 rfl rfl ?_; try simp only [Act.put, sA, s0, s1]
     refine sy 4 14 rfl rfl ?_; try simp only [Act.put, sA, s0, s1]
     refine sy 5 15 rfl rfl ?_ (hy := by (intro w hSw; (try dsimp only at hSw); have q0 := CB.out _ hSw; go_simp; try with_reducible rfl))
     try simp only [Act.put, sA, s0, s1]
     refine sy 6 16 rfl rfl ?_; try simp only [Act.put, sA, s0, s1]
     refine sy 7 17 rfl rfl ?_; try simp only [Act.put, sA, s0, s1]
     refine sy 8 18 rfl rfl ?_; try simp only [Act.put, sA, s0, s1]
     refine sy 9 19 rfl rfl ?_ (hy := by (intro w hSw; (try dsimp only at hSw); have q0 := YB.out _ hSw; go_simp; try with_reducible rfl))
     try simp only [Act.put, sA, s0, s1]
     refine sy 10 20 rfl rfl ?_ (hy := by (intro w hSw; (try dsimp only at hSw); have q0 := CB.out _ hSw; go_simp; try with_reducible rfl))
     try simp only [Act.put, sA, s0, s1]
     refine sy 11 21 rfl rfl ?_; try simp only [Act.put, sA, s0, s1]
     refine sy 12 22 rfl rfl ?_; try simp only [Act.put, sA, s0, s1]
     refine sy 13 23 rfl rfl ?_; try simp only [Act.put, sA, s0, s1]
     refine sy 14 24 rfl rfl ?_ (hy := by (intro w hSw; (try dsimp only at hSw); have q0 := XB.out _ hSw; go_simp; try with_reducible rfl))
     try simp only [Act.put, sA, s0, s1]
     refine sy 15 25 rfl rfl ?_; try simp only [Act.put, sA, s0, s1]
     refine sy 16 26 rfl rfl ?_; try simp only [Act.put, sA, s0, s1]
     refine wpAnyH_done (by kernel_rfl) ?_ _; clear hHeld CB XB YB
     by_cases hq : f.p = b.p
     ·
      have e6 : (f.p == b.p) = true := beq_iff_eq.2 hq
      have SM1 : Hid (∀ i, k ≤ i → i < j + 1 → pathE es i = pathE es k) := h_ (fun i a t => by
       by_cases u : i = j
       ·
        subst u
        rw [pathE_some EF.out, pathE_some EB.out, hq]
       ·
        exact SM.out i a (by omega))
      have CD1 := CD
      generalize wr.drew = w9 at *
      clear hq SM NEXT
      rw [e6]
      gi_wp2
      go_roundw
      case rel => exact ⟨j + 1, by omega, by omega, by go_num, SM1, CD1⟩
      case measure => simp [RowKit.intOf]; omega
     ·
      have e6 : (f.p == b.p) = false := beq_eq_false_iff_ne.2 hq
      have KJ : Hid (k < j) := h_ (by
       by_cases u : k = j
       ·
        subst u
        rw [EF.out] at EB
        exact absurd (by have := EB.out; cases this; rfl) hq
       ·
        omega)
      have RUN : Hid (RunAt es k j) := h_ ⟨KJ.out, by have := HL.out; omega, SM.out, fun _ e => hq (by rw [pathE_some EF.out, pathE_some EB.out] at e; exact Option.some.inj e)⟩
      rw [e6]
      clear hq SM
      have YD := NEXT.out KJ.out RUN.out
      have KJ2 := KJ.out
      have CD1 := CD
      have CB2 : wr.drew.cell? ⟨bs, 0, none⟩ = some (.slice (some ⟨g, o, none⟩) xs.length c) := by
       have q := CD.out.at_ ((KP.out.block bs HB.out.1 HB.out.2.1).trans HS.out) (by simp)
       simpa using cell_of q 0
      have SZ : Hid (n₁ ≤ wr.drew.heap.size) := h_ (by have := HB.out.2.2; have := KP.out.size; have := CD.out.size; omega)
      have KP1 : Hid (Kpt n₁ T W wr.drew) := h_ (KP.out.trans ((Kpt.of_chg CD.out (by have := HB.out.2.2; have := KP.out.size; omega)).mono (Nat.le_refl _) (by simp)))
      generalize wr.drew = w9 at *
      clear NEXT RX
      have m0 : (0 : Int) ≤ (j : Int) := by omega
      have m1 : (k : Int) ≤ (j : Int) := by omega
      have m2 : (j : Int) ≤ (c : Int) := by have := HC.out; omega
      have m3 : ¬ j = k := by omega
      have RA : runA (some ⟨g, o, none⟩) k = some ⟨g, o + k * 7, none⟩ := runA_some g o k
      rw [RA] at YD
      obtain ⟨fn, tmps, assign, body, hy, hR⟩ := YD
      gi_wp2_with fail
      refine hR.mono ?_
      rintro e W3 (⟨rfl, hJ3, hk3⟩ | ⟨rfl, hx⟩)
      ·
       gi_wp2
       go_roundw
       case rel => exact ⟨pre ++ [(k, j)], j, by rw [endRun_snoc], by omega, rfl, rfl, h_ hJ3, h_ (KP1.out.trans hk3)⟩
       case measure => simp [RowKit.intOf]; omega
      ·
       gi_wp2
       refine bodyPost_ret (results_none rfl _ _ _) rfl ?_
       exact ⟨⟨_, rfl⟩, .inr ⟨_, trivial, hx⟩⟩
    ·
     obtain rfl : j = xs.length := by omega
     have j1 : ¬ (xs.length : Int) < (xs.length : Int) := by omega
     have j2 : decide ((xs.length : Int) < (xs.length : Int)) = false := decide_eq_false j1
     have KJ := HLT
     have RUN : Hid (RunAt es k xs.length) := h_ ⟨KJ.out, by have := HL.out; omega, SM.out, fun q => absurd q (by have := HL.out; omega)⟩
     gi_wp2
     refine wpIn_wide.2 ?_
     refine wp_region_held_drew (S := fun w' => Chg [] wo w') (by kernel_rfl) CD.out (fun hHeld => ?_)
     refine sy 0 10 rfl rfl ?_; try simp only [Act.put, sA, s0, s1]
     refine sy 1 11 rfl rfl ?_ (hy := by (intro w hSw; (try dsimp only at hSw); have q0 := CB.out _ hSw; go_simp; try with_reducible rfl))
     try simp only [Act.put, sA, s0, s1]
     refine sy 2 12 rfl rfl ?_; try simp only [Act.put, sA, s0, s1]
     refine sy 3 13 rfl rfl ?_; try simp only [Act.put, sA, s0, s1]
     refine sy 4 14 rfl rfl ?_; try simp only [Act.put, sA, s0, s1]
     refine sn 5 15 rfl rfl ?_; try simp only [Act.put, sA, s0, s1]
     refine sn 6 16 rfl rfl ?_; try simp only [Act.put, sA, s0, s1]
     refine sn 7 17 rfl rfl ?_; try simp only [Act.put, sA, s0, s1]
     refine sn 8 18 rfl rfl ?_; try simp only [Act.put, sA, s0, s1]
     refine sn 9 19 rfl rfl ?_; try simp only [Act.put, sA, s0, s1]
     refine sn 10 20 rfl rfl ?_; try simp only [Act.put, sA, s0, s1]
     refine sn 11 21 rfl rfl ?_; try simp only [Act.put, sA, s0, s1]
     refine sn 12 22 rfl rfl ?_; try simp only [Act.put, sA, s0, s1]
     refine sn 13 23 rfl rfl ?_; try simp only [Act.put, sA, s0, s1]
     refine sn 14 24 rfl rfl ?_; try simp only [Act.put, sA, s0, s1]
     refine sn 15 25 rfl rfl ?_; try simp only [Act.put, sA, s0, s1]
     refine sy 16 26 rfl rfl ?_; try simp only [Act.put, sA, s0, s1]
     refine wpAnyH_done (by kernel_rfl) ?_ _; clear hHeld CB XB SM
     have YD := NEXT.out KJ.out RUN.out
     have KJ2 := KJ.out
     have CD1 := CD
     have CB2 : wr.drew.cell? ⟨bs, 0, none⟩ = some (.slice (some ⟨g, o, none⟩) xs.length c) := by
      have q := CD.out.at_ ((KP.out.block bs HB.out.1 HB.out.2.1).trans HS.out) (by simp)
      simpa using cell_of q 0
     have SZ : Hid (n₁ ≤ wr.drew.heap.size) := h_ (by have := HB.out.2.2; have := KP.out.size; have := CD.out.size; omega)
     have KP1 : Hid (Kpt n₁ T W wr.drew) := h_ (KP.out.trans ((Kpt.of_chg CD.out (by have := HB.out.2.2; have := KP.out.size; omega)).mono (Nat.le_refl _) (by simp)))
     generalize wr.drew = w9 at *
     clear NEXT RX
     have m0 : (0 : Int) ≤ (xs.length : Int) := by omega
     have m1 : (k : Int) ≤ (xs.length : Int) := by omega
     have m2 : (xs.length : Int) ≤ (c : Int) := by have := HC.out; omega
     have m3 : ¬ xs.length = k := by omega
     have RA : runA (some ⟨g, o, none⟩) k = some ⟨g, o + k * 7, none⟩ := runA_some g o k
     rw [RA] at YD
     obtain ⟨fn, tmps, assign, body, hy, hR⟩ := YD
     gi_wp2_with fail
     refine hR.mono ?_
     rintro e W3 (⟨rfl, hJ3, hk3⟩ | ⟨rfl, hx⟩)
     ·
      gi_wp2
      go_roundw
      case rel => exact ⟨pre ++ [(k, xs.length)], xs.length, by rw [endRun_snoc], by omega, rfl, rfl, h_ hJ3, h_ (KP1.out.trans hk3)⟩
      case measure => simp [RowKit.intOf]; omega
     ·
      gi_wp2
      refine bodyPost_ret (results_none rfl _ _ _) rfl ?_
      exact ⟨⟨_, rfl⟩, .inr ⟨_, trivial, hx⟩⟩
  ·
   obtain rfl : k = xs.length := by omega
   have k1 : ¬ (xs.length : Int) < (xs.length : Int) := by omega
   gi_wp2
   go_end0
   exact ⟨⟨_, rfl⟩, .inl ⟨pre, by rw [← HK.out]; exact HL.out, JP.out⟩⟩
end
section
open Go.RowKit Go.Lib Go.Maps

theorem law_dot : Keyed Tryz.prog 35 := Keyed.of_law (deep_law_laid (by kernel_rfl) (m := 3) (by omega) (of_decide_eq_true (by kernel_rfl)) (by kernel_rfl) (by rw [Tryz.underlying35]))
theorem keyDot (n s : Int) (hn : (Lit.int .i64 n).wf = true) (hs : (Lit.int .i64 s).wf = true) : keyOf Tryz.prog 35 (.agg #[.int .i64 n, .int .i64 s]) = some (.string (keyBytes [.int .i64 n, .int .i64 s])) := by
 have kt : Tryz.prog.keyType 35 = true := by kernel_rfl
 have c2 : Tryz.prog.cellsOf 35 = 2 := by kernel_rfl
 have c1 : Tryz.prog.cellsOf 3 = 1 := by kernel_rfl
 have fm : (Value.agg #[.int .i64 n, .int .i64 s]).formed Tryz.prog 35 = true := by simp [Value.formed, Tryz.underlying35, c2]
 obtain ⟨m, hm⟩ : ∃ m, Tryz.prog.types.size = m + 1 := ⟨Tryz.prog.types.size - 1, by have : 0 < Tryz.prog.types.size := of_decide_eq_true (by kernel_rfl); omega⟩
 have ki : ∀ a : Int, (Lit.int .i64 a).wf = true → Tryz.prog.keyLits (m + 1) 3 [.int .i64 a] = some [.int .i64 a] := fun a ha => by
  unfold Program.keyLits
  simp [Tryz.underlying3, ha]
 have kl : Tryz.prog.keyLits (Tryz.prog.types.size + 1) 35 [.int .i64 n, .int .i64 s] = some [.int .i64 n, .int .i64 s] := by
  rw [hm]
  unfold Program.keyLits
  simp [Tryz.underlying35, c2, c1, ki n hn, ki s hs]
 unfold keyOf
 rw [Tryz.underlying35]
 simp only [kt, fm, Bool.and_self, if_true]
 rw [show (Value.agg #[.int .i64 n, .int .i64 s]).cells.toList = [.int .i64 n, .int .i64 s] from rfl, kl]
 rfl
theorem dotLit_inj {a b : EvP} (ha : (Lit.int .i64 a.n).wf = true ∧ (Lit.int .i64 a.s).wf = true) (hb : (Lit.int .i64 b.n).wf = true ∧ (Lit.int .i64 b.s).wf = true) : dotLit a = dotLit b ↔ (a.n = b.n ∧ a.s = b.s) := by
 constructor
 ·
  intro h
  have h1 := keyDot a.n a.s ha.1 ha.2
  have h2 := keyDot b.n b.s hb.1 hb.2
  unfold dotLit at h
  rw [← h] at h2
  have := law_dot.inj h1 h2
  simpa using this
 ·
  rintro ⟨h1, h2⟩
  unfold dotLit
  rw [h1, h2]
end
section
open Go.RowKit

def noDefer (ops : Array Oper) : Bool := ops.toList.all fun o => match o.op with | .defer _ => false | _ => true
theorem noDefer_at {ops : Array Oper} (h : noDefer ops = true) {i : Nat} {o : Oper} (hi : ops[i]? = some o) : ∀ c, o.op ≠ .defer c := by
 intro c hc
 have hm : o ∈ ops.toList := by
  rw [← Array.getElem?_toList] at hi
  exact List.mem_of_getElem? hi
 have := List.all_eq_true.1 h o hm
 rw [hc] at this
 cases this
section
variable {P : Program} {l n : Nat} {ops : Array Oper} {Q : Exit → Act → World → Prop} {md : Region.Mode} {S : World → Prop}
theorem wp_toRound {o : Oper} {a : Act} {w : World} {K : Act → World → Prop} (hd : ∀ c, o.op ≠ .defer c) (h : o.wp P a w K Q) : o.wpIn (Fence.wide.inRound l) n P a w K Q := by
 refine ⟨fun _ _ => trivial, ?_⟩
 rw [Oper.semAt_plain _ _ _ hd]
 unfold Oper.wp at h
 generalize (execOp a.eval o).run P w = r at *
 cases r with
 | ok x w' =>
  cases x <;> simp only [Oper.upon, Oper.uponIn] at h ⊢
  case value u => exact h
  case skip => exact h
  case defer d => exact h
  case enter f args => exact ⟨fun hd => Bool.noConfusion hd, CallsIn.inRound l (callsIn_wide.2 h)⟩
  case row row args => exact ⟨fun hd => Bool.noConfusion hd, fun c cs _ => let ⟨v, w', r, s⟩ := h c cs; ⟨v, w', r, stepsIn_wide.2 s⟩⟩
 | halt x w' =>
  cases x <;> simp only [Oper.upon, Oper.uponIn] at h ⊢
  case panic u => exact h
theorem wpOp_toRound {i : Nat} {a : Act} {w : World} {K K' : Act → World → Prop} (hd : noDefer ops = true) (hL : ¬ LetsOut Q) (hK : ∀ a w, K a w → K' a w) (h : wpOp P ops Q i K a w) : wpOpIn (Fence.wide.inRound l) n P ops Q i K' a w := by
 unfold wpOp at h
 unfold wpOpIn
 cases ho : ops[i]? with
 | none => rw [ho] at h; exact hK _ _ h
 | some o =>
  rw [ho] at h
  by_cases hw : Region.wanted o (yielded ops a.tmps) = true
  ·
   simp only [hw, if_true] at h ⊢
   exact Oper.wpIn_mono hK (wp_toRound (noDefer_at hd ho) (h.resolve_right fun h => hL h.2))
  ·
   simp only [hw] at h ⊢
   exact ⟨fun _ _ => trivial, hK _ _ h⟩
theorem wpAny_toRound (hd : noDefer ops = true) (hL : ¬ LetsOut Q) : ∀ (fuel : Nat) (listed : Array Bool) (a : Act) (w : World), wpAny P md ops Q fuel listed a w → wpAnyIn (Fence.wide.inRound l) n P md ops Q fuel listed a w
 | 0, _, _, _, h => h
 | fuel + 1, _, _, _, h => ⟨h.1, fun i hi => wpOp_toRound hd hL (fun a w h => wpAny_toRound hd hL fuel _ a w h) (h.2 i hi)⟩
theorem wpIn_round_held {id : Nat} {a : Act} {w : World} (hm : P.follows .mixedOrders = true) (hd : noDefer ops = true) (hL : ¬ LetsOut Q) (hS : S w.drew)
  (h : S w.drew → wpAnyH P .any ops Q S ops.size (Array.replicate ops.size false) a w.drew) : (Code.region id ops true).wpIn (Fence.wide.inRound l) n P Q a w :=
 wpIn_region_any hm (wpAny_toRound hd hL _ _ _ _ (wpAny_of_held _ _ _ _ (h hS)))
end
end
end Go.Proofs.YtehmchdhlhchjaaGreatDoor
