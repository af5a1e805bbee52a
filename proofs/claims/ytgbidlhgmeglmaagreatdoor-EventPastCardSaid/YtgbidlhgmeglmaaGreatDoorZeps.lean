/- Closed's func, and the search by it. event.Closed. The document's Ahead. The document's Within. The document's Closed. The layer's closed examples: the run on marks, reckoned by the kernel. EventPast. Rows of events as arguments. Nothing is asked of the variables. -/
import Derived.Test.YtgbidlhgmeglmaaGreatDoorZepp
import Derived.Deep.Cut
import Derived.Test.YtgbidlhgmeglmaaGreatDoorShelf4
import Derived.Test.YtgbidlhgmeglmaaGreatDoorZepf
import Derived.BigQuiet
import Derived.Test.YtgbidlhgmeglmaaGreatDoorZepr
import Derived.Test.YtgbidlhgmeglmaaGreatDoorZepc
import Derived.Test.YtgbidlhgmeglmaaGreatDoorZepd
import Derived.Test.YtgbidlhgmeglmaaGreatDoorZepe
import Derived.Test.YtgbidlhgmeglmaaGreatDoorZepg
import Derived.Test.YtgbidlhgmeglmaaGreatDoorZepk
import Derived.Test.YtgbidlhgmeglmaaGreatDoorZepa
import Derived.Test.YtgbidlhgmeglmaaGreatDoorZepq
import Derived.Test.YtgbidlhgmeglmaaGreatDoorLaid0
namespace Go.Proofs.YtgbidlhgmeglmaaGreatDoor
section
open Go.RowKit Go.Lib
set_option linter.unusedSimpArgs false
set_option linter.unusedVariables false


set_option maxRecDepth 100000 in
set_option maxHeartbeats 4000000 in
theorem evclosed2_any (w : World) (gp : Nat) (A : Option Addr) (c : Nat) (xs : List EvT) (es : List EvP) (y : EvT) (f : EvP) (hp : w.heap[gp]? = some (.cells #[.slice A xs.length c] 31 (0, 0))) (h : RdK evTy w A xs.length xs) (hx : EvsR w xs es) (hu : UpE xs) (hf : FitE w xs) (hn : xs.length ≤ 100000) (hs : ∀ e ∈ es, e.q.length ≤ 140737488351232) (hy : EvR w y f) (fy : FitW w y.B y.bl y.bc) (hl : f.q.length ≤ 140737488351232) :
  Calls Tryz.prog 97 #[.agg #[.int .i64 y.n, .int .i64 y.s, .string y.p, .int .i64 y.k, .int .i64 y.m, .slice y.A y.l y.c, .slice y.B y.bl y.bc], .pointer (some ⟨gp, 0, none⟩)] w fun r w' => r = .returned (.bool (!bringsE es f)) ∧ Chg [] w w' := by
 obtain ⟨w1, hw1, c1, b1⟩ := news1 w (.cells #[.int .i64 y.n, .int .i64 y.s, .string y.p, .int .i64 y.k, .int .i64 y.m, .slice y.A y.l y.c, .slice y.B y.bl y.bc] 29)
 have W1 := Lib.hid hw1
 have C1 := Lib.hid c1
 have BR := Lib.hid (evbrings_any w1 A c xs es y f (h.chg c1 (by simp)) (hx.chg c1) hu (hf.chg c1) (hy.chg c1) (fy.chg c1) hn ⟨hs, hl⟩)
 have p0 := cell_of (c1.at_ hp (by simp)) 0
 have y0 := cell_of b1 0
 have y1 := cell_of b1 1
 have y2 := cell_of b1 2
 have y3 := cell_of b1 3
 have y4 := cell_of b1 4
 have y5 := cell_of b1 5
 have y6 := cell_of b1 6
 simp only [List.getElem?_toArray, List.getElem?_cons_succ, List.getElem?_cons_zero] at p0 y0 y1 y2 y3 y4 y5 y6
 clear hw1 c1 b1 hp h hx hu hf hn hs hy fy hl
 generalize hv : bringsE es f = v at *
 have HV := Lib.hid hv
 clear hv
 go_enter Tryz.func97, Tryz.ntmps97
 go_upto_region 1 with fail
 rw [← W1.out]
 generalize w.heap.size = g1 at *
 clear W1
 go_wp2_with fail
 refine BR.out.mono ?_
 rintro r w2 ⟨rfl, hc⟩
 replace C1 := Lib.hid (C1.out.trans hc)
 clear hc BR p0 y0 y1 y2 y3 y4 y5 y6
 go_wp2
 go_ret
 exact ⟨rfl, C1.out⟩
theorem all_at_no {α : Type} {p : α → Bool} {l : List α} {k : Nat} {x : α} (h : l[k]? = some x) (hp : p x = false) : l.all p = false := by
 rcases q : l.all p with _ | _
 ·
  rfl
 ·
  have := List.all_eq_true.1 q x (List.mem_of_getElem? h)
  rw [hp] at this
  exact absurd this (by decide)
set_option maxRecDepth 100000 in
set_option maxHeartbeats 4000000 in
theorem evindex_any (w : World) (gp : Nat) (A : Option Addr) (c : Nat) (xs : List EvT) (es : List EvP) (hp : w.heap[gp]? = some (.cells #[.slice A xs.length c] 31 (0, 0))) (h : RdK evTy w A xs.length xs) (hx : EvsR w xs es) (hu : UpE xs) (hf : FitE w xs) (hn : xs.length ≤ 100000) (hs : ∀ e ∈ es, e.q.length ≤ 140737488351232) :
  Calls Tryz.prog 138 #[.slice A xs.length c, .func (.func 97) #[] #[.pointer (some ⟨gp, 0, none⟩)]] w fun r w' => (∃ v : Int, r = .returned (.int .i64 v) ∧ es.all (bringsE es) = decide (v < 0)) ∧ Chg [] w w' := by
 have HP := Lib.hid hp
 have HA := Lib.hid h
 have HX := Lib.hid hx
 have HU := Lib.hid hu
 have HF := Lib.hid hf
 have HN := Lib.hid hn
 have HS := Lib.hid hs
 clear hp h hx hu hf hn hs
 go_enter Tryz.func138, Tryz.ntmps138
 go_wp2
 go_loopw [5, 8] (fun v5 v8 wr => ∃ (k : Nat), k ≤ xs.length ∧ v8 = .int .i64 k ∧ Hid ((es.take k).all (bringsE es) = true) ∧ Hid (Chg [] w wr)) (fun _ v8 _ => xs.length - (RowKit.intOf v8).toNat)
 case atStart => exact ⟨0, Nat.zero_le _, rfl, Lib.hid rfl, Chg.refl _ _⟩
 case round =>
  obtain ⟨k, hk, rfl, FN, RC⟩ := hrel
  have i0 : (0 : Int) ≤ (k : Int) := by omega
  by_cases hlt : k < xs.length
  ·
   have i1 : (k : Int) < (xs.length : Int) := by omega
   have i3 : IntKind.i64.wrap ((k : Int) + 1) = (k : Int) + 1 := IntWalk.i64_in _ (by have := HN.out; omega)
   obtain ⟨x, e, ex, ee, rx⟩ := HX.out.at_ hlt
   obtain ⟨g, o, eA, _⟩ := HA.out.line (by omega)
   subst eA
   obtain ⟨z0, z1, z2, z3, z4, z5, z6⟩ := evCells (HA.out.chg RC.out (by simp)) ex
   have EE := Lib.hid ee
   have CL := Lib.hid (evclosed2_any wr gp _ c xs es x e (RC.out.at_ HP.out (by simp)) (HA.out.chg RC.out (by simp)) (HX.out.chg RC.out) HU.out (HF.out.chg RC.out) HN.out HS.out (rx.chg RC.out) ((HF.out x (List.mem_of_getElem? ex)).chg RC.out) (HS.out e (List.mem_of_getElem? ee)))
   clear ex ee rx
   go_wp2_with fail
   refine CL.out.mono ?_
   rintro r w2 ⟨rfl, hc⟩
   have C2 := Lib.hid (RC.out.trans hc)
   clear hc CL z0 z1 z2 z3 z4 z5 z6
   rcases hb : bringsE es e with _ | _
   ·
    have NO : Hid (es.all (bringsE es) = false) := Lib.hid (all_at_no EE.out hb)
    clear hb
    go_wp2
    go_ret
    exact ⟨by rw [NO.out]; simp, C2.out⟩
   ·
    have FN1 : Hid ((es.take (k + 1)).all (bringsE es) = true) := Lib.hid (by rw [all_take_succ EE.out, FN.out, hb]; rfl)
    clear hb FN
    go_wp2
    go_round
    case rel => exact ⟨k + 1, by omega, by go_num, FN1, C2⟩
    case measure => simp [RowKit.intOf]; omega
  ·
   obtain rfl : k = xs.length := by omega
   have ET : es.take xs.length = es := by rw [HX.out.1]; exact List.take_length
   rw [ET] at FN
   clear ET
   have i1 : ¬ (xs.length : Int) < (xs.length : Int) := by omega
   go_wp2
   go_ret
   exact ⟨by rw [FN.out]; simp, RC.out⟩
set_option maxRecDepth 100000 in
set_option maxHeartbeats 4000000 in
theorem evcontains_any (w : World) (gp : Nat) (A : Option Addr) (c : Nat) (xs : List EvT) (es : List EvP) (hp : w.heap[gp]? = some (.cells #[.slice A xs.length c] 31 (0, 0))) (h : RdK evTy w A xs.length xs) (hx : EvsR w xs es) (hu : UpE xs) (hf : FitE w xs) (hn : xs.length ≤ 100000) (hs : ∀ e ∈ es, e.q.length ≤ 140737488351232) :
  Calls Tryz.prog 96 #[.slice A xs.length c, .func (.func 97) #[] #[.pointer (some ⟨gp, 0, none⟩)]] w fun r w' => r = .returned (.bool (!es.all (bringsE es))) ∧ Chg [] w w' := by
 have IX := Lib.hid (evindex_any w gp A c xs es hp h hx hu hf hn hs)
 clear hp h hx hu hf hn hs
 have go : ∀ v, (!es.all (bringsE es)) = v → Calls Tryz.prog 96 #[.slice A xs.length c, .func (.func 97) #[] #[.pointer (some ⟨gp, 0, none⟩)]] w (fun e w' => e = .returned (.bool v) ∧ Chg [] w w') → Calls Tryz.prog 96 #[.slice A xs.length c, .func (.func 97) #[] #[.pointer (some ⟨gp, 0, none⟩)]] w fun e w' => e = .returned (.bool (!es.all (bringsE es))) ∧ Chg [] w w' := fun v hv h => hv ▸ h
 rcases hf : es.all (bringsE es) with _ | _
 ·
  rw [hf] at go
  refine go true rfl ?_
  clear go
  go_enter Tryz.func96, Tryz.ntmps96
  go_wp2_with fail
  refine IX.out.mono ?_
  rintro e w2 ⟨⟨v, rfl, hv⟩, hc⟩
  have C := Lib.hid hc
  have hv2 : decide ((0 : Int) ≤ v) = true := decide_eq_true (by rw [hf] at hv; have := of_decide_eq_false hv.symm; omega)
  clear hv hc hf
  go_wp2
  go_ret
  exact ⟨rfl, C.out⟩
 ·
  rw [hf] at go
  refine go false rfl ?_
  clear go
  go_enter Tryz.func96, Tryz.ntmps96
  go_wp2_with fail
  refine IX.out.mono ?_
  rintro e w2 ⟨⟨v, rfl, hv⟩, hc⟩
  have C := Lib.hid hc
  have hv2 : decide ((0 : Int) ≤ v) = false := decide_eq_false (by rw [hf] at hv; have := of_decide_eq_true hv.symm; omega)
  clear hv hc hf
  go_wp2
  go_ret
  exact ⟨rfl, C.out⟩
end
section
open Go.RowKit Go.Lib
set_option linter.unusedSimpArgs false
set_option linter.unusedVariables false


theorem EvsR.perm {w : World} {xs ms : List EvT} {es : List EvP} (h : EvsR w xs es) (hp : ms.Perm xs) : ∃ fs, fs.Perm es ∧ EvsR w ms fs := by
 obtain ⟨fs, hl, hz⟩ := perm_zip hp es h.1.symm
 have hm : ms.length = xs.length := hp.length_eq
 refine ⟨fs, ?_, hl.symm, fun i x e hx he => ?_⟩
 ·
  have := hz.map Prod.snd
  rwa [List.map_snd_zip (by omega), List.map_snd_zip (by rw [h.1]; exact Nat.le_refl _)] at this
 ·
  have hi : (x, e) ∈ ms.zip fs := List.mem_of_getElem? (i := i) (by rw [List.getElem?_zip_eq_some]; exact ⟨hx, he⟩)
  obtain ⟨j, hj⟩ := List.getElem?_of_mem (hz.mem_iff.1 hi)
  rw [List.getElem?_zip_eq_some] at hj
  exact h.2 j x e hj.1 hj.2
theorem up_apart {w : World} {ms : List EvT} {fs : List EvP} (h : EvsR w ms fs) (hu : UpE ms) (ha : ∀ (p : Nat) (a b : EvT), ms[p]? = some a → ms[p + 1]? = some b → ¬ (a.n = b.n ∧ a.s = b.s)) : fs.Pairwise (fun a b => ¬ (a.n = b.n ∧ a.s = b.s)) := by
 rw [List.pairwise_iff_getElem]
 intro i j hi hj hij
 have hl := h.1
 have ei := List.getElem?_eq_getElem (show i < ms.length by omega)
 have ej := List.getElem?_eq_getElem (show j < ms.length by omega)
 have ek := List.getElem?_eq_getElem (show i + 1 < ms.length by omega)
 have r1 := h.2 i _ _ ei (List.getElem?_eq_getElem hi)
 have r2 := h.2 j _ _ ej (List.getElem?_eq_getElem hj)
 rw [← r1.n, ← r1.s, ← r2.n, ← r2.s]
 have a := ha i _ _ ei ek
 have b := up_at hu ei ek (by omega)
 by_cases q : i + 1 = j
 ·
  subst q
  exact a
 ·
  have d := up_at hu ek ej (by omega)
  unfold LtD at b d
  omega
set_option maxRecDepth 100000 in
set_option maxHeartbeats 16000000 in
theorem evclosed_any (w : World) (A : Option Addr) (c : Nat) (xs : List EvT) (es : List EvP) (h : RdK evTy w A xs.length xs) (hx : EvsR w xs es) (hf : FitE w xs) (hn : xs.length ≤ 100000) (hs : ∀ e ∈ es, EvSm e) :
  Calls Tryz.prog 33 #[.slice A xs.length c] w fun r w' => r = .returned (.bool (closedE es)) ∧ Chg [] w w' := by

 have HA := Lib.hid h
 have HX := Lib.hid hx
 have HF := Lib.hid hf
 have HN := Lib.hid hn
 have HS := Lib.hid hs
 clear h hx hf hn hs
 go_enter Tryz.func33, Tryz.ntmps33
 go_wp2_with fail
 refine (cloneEv_any w A xs.length c xs HA.out (by have := HN.out; omega)).mono ?_
 rintro r w1 ⟨A1, c1, rfl, o1, n1, h1⟩
 have O1 := Lib.hid o1
 have N1 := Lib.hid n1
 have C1 := Lib.hid h1
 have L1 := Lib.hid (o1.lt_)
 clear o1 n1 h1
 obtain ⟨w2, hw, hc, b2⟩ := news1 w1 (.cells #[.slice A1 xs.length c1] 31)
 have W2 := Lib.hid hw
 have B2 := Lib.hid b2
 have NE : Hid (w1.heap.size ∉ blkOf A1) := Lib.hid (notin_hi L1.out (Nat.le_refl _))
 replace O1 := Lib.hid (O1.out.chg hc (by simp))
 replace C1 := Lib.hid (C1.out.trans hc)
 clear hw hc b2
 go_upto_region 2 with fail
 rw [← W2.out]
 generalize w1.heap.size = gp at *
 clear W2
 have p0 := cell_of B2.out 0
 simp only [List.getElem?_toArray, List.getElem?_cons_succ, List.getElem?_cons_zero] at p0
 go_wp2_with fail
 refine (sortp_any (R := evTy) Tryz.llLaysE06 Tryz.isAgg29 Tryz.sizeOf29 cmpEv swoEv 94 (enters_of Tryz.func94 (by kernel_rfl) rfl) evcmp_says w2 A1 c1 xs O1.out (by have := HN.out; omega)).mono ?_
 rintro r w3 ⟨rfl, ms, hp, hs, o2, h2⟩
 have RO := Lib.hid o2
 replace B2 := Lib.hid (h2.at_ B2.out NE.out)
 replace C1 := Lib.hid (C1.out.trans' h2 fun i hi => .inr (blkOf_new N1.out i hi))
 have ML : ms.length = xs.length := hp.length_eq
 have UP : Hid (UpE ms) := Lib.hid (hs.imp (fun {x y} q => by
  rw [ltEv, decide_eq_false_iff_not] at q
  exact q))
 obtain ⟨fs, hfp, hr⟩ := HX.out.perm hp
 have RX := Lib.hid (hr.chg C1.out)
 have RF : Hid (FitE w3 ms) := Lib.hid (fun x hx => (HF.out x (hp.mem_iff.1 hx)).chg C1.out)
 have CE : Hid (closedE es = closedE fs) := Lib.hid (closed_perm hfp.symm)
 have ES : Hid (∀ e ∈ fs, EvSm e) := Lib.hid (fun e he => HS.out e (hfp.mem_iff.1 he))
 have MN : Hid (ms.length ≤ 100000) := Lib.hid (by rw [ML]; exact HN.out)
 rw [← ML] at B2 ⊢
 clear hp hs o2 h2 O1 hfp hr p0 HX HF HS HN ML HA N1 L1 NE
 have p0 := cell_of B2.out 0
 simp only [List.getElem?_toArray, List.getElem?_cons_succ, List.getElem?_cons_zero] at p0
 go_wp2
 clear p0
 go_loopw [4, 12] (fun v4 v12 wr => ∃ (k : Nat), k ≤ ms.length ∧ v12 = .int .i64 k ∧ Hid (okAll (fs.take k) = true) ∧ Hid (∀ (p : Nat) (a b : EvT), p + 1 < k → ms[p]? = some a → ms[p + 1]? = some b → ¬ (a.n = b.n ∧ a.s = b.s)) ∧ Hid (Chg [] w3 wr)) (fun _ v12 _ => ms.length - (RowKit.intOf v12).toNat)
 case atStart => exact ⟨0, Nat.zero_le _, rfl, Lib.hid rfl, Lib.hid (fun p a b h => absurd h (by omega)), Chg.refl _ _⟩
 case round =>
  obtain ⟨k, hk, rfl, OKK, AP, PC⟩ := hrel
  have j0 : (0 : Int) ≤ (k : Int) := by omega
  by_cases hlt : k < ms.length
  ·
   have j1 : (k : Int) < (ms.length : Int) := by omega
   have j3 : IntKind.i64.wrap ((k : Int) + 1) = (k : Int) + 1 := IntWalk.i64_in _ (by have := MN.out; omega)
   obtain ⟨g3, o3, eA, _⟩ := RO.out.reads.line (by omega)
   have eo : o3 = 0 := by
    rcases RO.out.shape with ⟨h, _⟩ | ⟨g', h, _⟩
    ·
     rw [h] at eA; cases eA
    ·
     rw [h] at eA; cases eA; rfl
   subst eo
   subst eA
   obtain ⟨x, e, ex, ee, rx⟩ := RX.out.at_ hlt
   obtain ⟨z0, z1, z2, z3, z4, z5, z6⟩ := evCells (RO.out.reads.chg PC.out (by simp)) ex
   simp only [Nat.zero_add] at z0 z1 z2 z3 z4 z5 z6
   have EX := Lib.hid ex
   have EE := Lib.hid ee
   have RX1 := Lib.hid rx
   have ES1 := Lib.hid (ES.out e (List.mem_of_getElem? ee))
   clear ex ee rx
   obtain ⟨w5, hw5, c5, b5⟩ := news1 wr (.cells #[.int .i64 x.n, .int .i64 x.s, .string x.p, .int .i64 x.k, .int .i64 x.m, .slice x.A x.l x.c, .slice x.B x.bl x.bc] 29)
   have W5 := Lib.hid hw5
   have B5 := Lib.hid b5
   replace PC := Lib.hid (PC.out.trans c5)
   clear hw5 c5 b5
   go_upto_region 6 with fail
   rw [← W5.out]
   generalize wr.heap.size = g6 at *
   clear W5 z0 z1 z2 z3 z4 z5 z6
   have P5 := Lib.hid (PC.out.at_ B2.out (by simp))
   have HB : Hid (∀ w', Chg [] w5 w' → (w'.cell? ⟨g6, 0, none⟩ = some (.int .i64 x.n) ∧ w'.cell? ⟨g6, 1, none⟩ = some (.int .i64 x.s) ∧ w'.cell? ⟨g6, 2, none⟩ = some (.string x.p) ∧ w'.cell? ⟨g6, 3, none⟩ = some (.int .i64 x.k) ∧ w'.cell? ⟨g6, 4, none⟩ = some (.int .i64 x.m) ∧ w'.cell? ⟨g6, 5, none⟩ = some (.slice x.A x.l x.c) ∧ w'.cell? ⟨g6, 6, none⟩ = some (.slice x.B x.bl x.bc)) ∧ w'.cell? ⟨gp, 0, none⟩ = some (.slice (some ⟨g3, 0, none⟩) ms.length c1)) := Lib.hid (fun w' hc => by
    have b := hc.at_ B5.out (by simp)
    exact ⟨⟨cell_of b 0, cell_of b 1, cell_of b 2, cell_of b 3, cell_of b 4, cell_of b 5, cell_of b 6⟩, cell_of (hc.at_ P5.out (by simp)) 0⟩)
   have HR : Hid (∀ w', Chg [] w5 w' → ∀ y, ms[k - 1]? = some y → w'.cell? ⟨g3, (k - 1) * 7, none⟩ = some (.int .i64 y.n) ∧ w'.cell? ⟨g3, (k - 1) * 7 + 1, none⟩ = some (.int .i64 y.s)) := Lib.hid (fun w' hc y hy => by
    have q := evCells (RO.out.reads.chg (PC.out.trans hc) (by simp)) hy
    simp only [Nat.zero_add] at q
    exact ⟨q.1, q.2.1⟩)
   have CHK : Hid (∀ w', Chg [] w5 w' → Calls Tryz.prog 14 #[.agg #[.int .i64 x.n, .int .i64 x.s, .string x.p, .int .i64 x.k, .int .i64 x.m, .slice x.A x.l x.c, .slice x.B x.bl x.bc]] w' fun r w2 => r = .returned (.int .i64 (chkEv e)) ∧ Chg [] w' w2) := Lib.hid (fun w' hc => evcheck_any w' x e (RX1.out.chg (PC.out.trans hc)) ES1.out)
   rcases chkEv_two e with e1 | e1
   rotate_left
   ·
    have NO : Hid (closedE fs = false) := Lib.hid (closed_no_chk EE.out (by omega))
    refine wp_region_held_drew (S := fun w' => Chg [] w5 w') (by kernel_rfl) (Chg.refl [] w5).drew (fun hHeld => ?_)
    refine sy 0 17 rfl rfl ?_ (hy := by (intro w hSw; (try dsimp only at hSw); have hq := HB.out _ hSw; obtain ⟨⟨q0, q1, q2, q3, q4, q5, q6⟩, q7⟩ := hq; go_simp; try with_reducible rfl))
    try simp only [Act.put, sA, s0, s1]
    refine wpAnyH_ready (rs := [1]) (by kernel_rfl) (by simp) ?_
    refine AllReadyH.cons rfl (fun K hK => ?_) AllReadyH.nil
    replace hK := Lib.hid hK
    go_simp
    refine (CHK.out _ hHeld).mono ?_
    rintro r w9 ⟨rfl, hc⟩
    rw [e1]
    have C9 := Lib.hid (hHeld.trans hc)
    clear hc hHeld
    refine hK.out _ _ C9.out (fun hHeld => ?_)
    clear hK K
    try simp only [Act.put, sA, s0, s1]
    refine sy 2 19 rfl rfl ?_
    try simp only [Act.put, sA, s0, s1]
    refine sy 3 20 rfl rfl ?_
    try simp only [Act.put, sA, s0, s1]
    refine sn 4 21 rfl rfl ?_
    try simp only [Act.put, sA, s0, s1]
    refine sn 5 22 rfl rfl ?_
    try simp only [Act.put, sA, s0, s1]
    refine sn 6 23 rfl rfl ?_
    try simp only [Act.put, sA, s0, s1]
    refine sn 7 24 rfl rfl ?_
    try simp only [Act.put, sA, s0, s1]
    refine sn 8 25 rfl rfl ?_
    try simp only [Act.put, sA, s0, s1]
    refine sn 9 26 rfl rfl ?_
    try simp only [Act.put, sA, s0, s1]
    refine sn 10 27 rfl rfl ?_
    try simp only [Act.put, sA, s0, s1]
    refine sn 11 28 rfl rfl ?_
    try simp only [Act.put, sA, s0, s1]
    refine sn 12 29 rfl rfl ?_
    try simp only [Act.put, sA, s0, s1]
    refine sn 13 30 rfl rfl ?_
    try simp only [Act.put, sA, s0, s1]
    refine sn 14 31 rfl rfl ?_
    try simp only [Act.put, sA, s0, s1]
    refine sn 15 32 rfl rfl ?_
    try simp only [Act.put, sA, s0, s1]
    refine sn 16 33 rfl rfl ?_
    try simp only [Act.put, sA, s0, s1]
    refine sy 17 34 rfl rfl ?_
    try simp only [Act.put, sA, s0, s1]
    refine wpAnyH_done (by kernel_rfl) ?_ _
    clear hHeld HB HR CHK
    go_wp2
    go_ret
    rw [CE.out, NO.out]
    exact ⟨rfl, C1.out.trans (PC.out.trans C9.out)⟩
   have OT : Hid (okAll (fs.take (k + 1)) = true) := Lib.hid (by rw [okAll_take EE.out, OKK.out, e1]; rfl)
   by_cases k0 : k = 0
   ·
    subst k0
    have AT : Hid (∀ (p : Nat) (a b : EvT), p + 1 < 0 + 1 → ms[p]? = some a → ms[p + 1]? = some b → ¬ (a.n = b.n ∧ a.s = b.s)) := Lib.hid (fun p a b h => absurd h (by omega))
    refine wp_region_held_drew (S := fun w' => Chg [] w5 w') (by kernel_rfl) (Chg.refl [] w5).drew (fun hHeld => ?_)
    refine sy 0 17 rfl rfl ?_ (hy := by (intro w hSw; (try dsimp only at hSw); have hq := HB.out _ hSw; obtain ⟨⟨q0, q1, q2, q3, q4, q5, q6⟩, q7⟩ := hq; go_simp; try with_reducible rfl))
    try simp only [Act.put, sA, s0, s1]
    refine wpAnyH_ready (rs := [1]) (by kernel_rfl) (by simp) ?_
    refine AllReadyH.cons rfl (fun K hK => ?_) AllReadyH.nil
    replace hK := Lib.hid hK
    go_simp
    refine (CHK.out _ hHeld).mono ?_
    rintro r w9 ⟨rfl, hc⟩
    rw [e1]
    have C9 := Lib.hid (hHeld.trans hc)
    clear hc hHeld
    refine hK.out _ _ C9.out (fun hHeld => ?_)
    clear hK K
    try simp only [Act.put, sA, s0, s1]
    refine sy 2 19 rfl rfl ?_
    try simp only [Act.put, sA, s0, s1]
    refine sy 3 20 rfl rfl ?_
    try simp only [Act.put, sA, s0, s1]
    refine sy 4 21 rfl rfl ?_
    try simp only [Act.put, sA, s0, s1]
    refine sy 5 22 rfl rfl ?_
    try simp only [Act.put, sA, s0, s1]
    refine sy 6 23 rfl rfl ?_
    try simp only [Act.put, sA, s0, s1]
    refine sn 7 24 rfl rfl ?_
    try simp only [Act.put, sA, s0, s1]
    refine sn 8 25 rfl rfl ?_
    try simp only [Act.put, sA, s0, s1]
    refine sn 9 26 rfl rfl ?_
    try simp only [Act.put, sA, s0, s1]
    refine sn 10 27 rfl rfl ?_
    try simp only [Act.put, sA, s0, s1]
    refine sn 11 28 rfl rfl ?_
    try simp only [Act.put, sA, s0, s1]
    refine sn 12 29 rfl rfl ?_
    try simp only [Act.put, sA, s0, s1]
    refine sn 13 30 rfl rfl ?_
    try simp only [Act.put, sA, s0, s1]
    refine sn 14 31 rfl rfl ?_
    try simp only [Act.put, sA, s0, s1]
    refine sn 15 32 rfl rfl ?_
    try simp only [Act.put, sA, s0, s1]
    refine sy 16 33 rfl rfl ?_
    try simp only [Act.put, sA, s0, s1]
    refine sy 17 34 rfl rfl ?_
    try simp only [Act.put, sA, s0, s1]
    refine wpAnyH_done (by kernel_rfl) ?_ _
    clear hHeld HB HR CHK
    have RC9 := Lib.hid (PC.out.trans C9.out)
    go_wp2
    go_round
    case rel => exact ⟨0 + 1, by omega, by go_num, OT, AT, RC9⟩
    case measure => simp [RowKit.intOf]; omega
   obtain ⟨y, hy⟩ : ∃ y, ms[k - 1]? = some y := ⟨_, List.getElem?_eq_getElem (by omega)⟩
   have EY := Lib.hid hy
   clear hy
   have g1 : (0 : Int) < (k : Int) := by omega
   have g2 : 0 < k := by omega
   have g3' : decide ((0 : Int) < (k : Int)) = true := by simp; omega
   have g4 : decide (0 < k) = true := by simp; omega
   have w1' : IntKind.i64.wrap ((k : Int) - 1) = ((k - 1 : Nat) : Int) := by rw [IntWalk.i64_in _ (by have := MN.out; omega)]; omega
   have g5 : (0 : Int) ≤ ((k - 1 : Nat) : Int) := by omega
   have g6' : ((k - 1 : Nat) : Int) < (ms.length : Int) := by omega
   have g7 : k - 1 < ms.length := by omega
   by_cases d1 : y.n = x.n ∧ y.s = x.s
   ·
    have NO : Hid (closedE fs = false) := Lib.hid (by
     obtain ⟨y2, f, ey, ef, ry⟩ := RX.out.at_ g7
     rw [EY.out] at ey
     cases ey
     exact closed_no_two ef EE.out (by omega) (fun q => q.1 (by rw [← ry.n, ← ry.s, ← RX1.out.n, ← RX1.out.s]; exact d1)))
    have dq : ((y.n == x.n) : Bool) = true := by simpa using d1.1
    have dr : ((y.s == x.s) : Bool) = true := by simpa using d1.2
    refine wp_region_held_drew (S := fun w' => Chg [] w5 w') (by kernel_rfl) (Chg.refl [] w5).drew (fun hHeld => ?_)
    refine sy 0 17 rfl rfl ?_ (hy := by (intro w hSw; (try dsimp only at hSw); have hq := HB.out _ hSw; obtain ⟨⟨q0, q1, q2, q3, q4, q5, q6⟩, q7⟩ := hq; go_simp; try with_reducible rfl))
    try simp only [Act.put, sA, s0, s1]
    refine wpAnyH_ready (rs := [1]) (by kernel_rfl) (by simp) ?_
    refine AllReadyH.cons rfl (fun K hK => ?_) AllReadyH.nil
    replace hK := Lib.hid hK
    go_simp
    refine (CHK.out _ hHeld).mono ?_
    rintro r w9 ⟨rfl, hc⟩
    rw [e1]
    have C9 := Lib.hid (hHeld.trans hc)
    clear hc hHeld
    refine hK.out _ _ C9.out (fun hHeld => ?_)
    clear hK K
    try simp only [Act.put, sA, s0, s1]
    refine sy 2 19 rfl rfl ?_
    try simp only [Act.put, sA, s0, s1]
    refine sy 3 20 rfl rfl ?_
    try simp only [Act.put, sA, s0, s1]
    refine sy 4 21 rfl rfl ?_
    try simp only [Act.put, sA, s0, s1]
    refine sy 5 22 rfl rfl ?_
    try simp only [Act.put, sA, s0, s1]
    refine sy 6 23 rfl rfl ?_
    try simp only [Act.put, sA, s0, s1]
    refine sy 7 24 rfl rfl ?_ (hy := by (intro w hSw; (try dsimp only at hSw); have hq := HB.out _ hSw; obtain ⟨⟨q0, q1, q2, q3, q4, q5, q6⟩, q7⟩ := hq; go_simp; try with_reducible rfl))
    try simp only [Act.put, sA, s0, s1]
    refine sy 8 25 rfl rfl ?_
    try simp only [Act.put, sA, s0, s1]
    refine sy 9 26 rfl rfl ?_
    try simp only [Act.put, sA, s0, s1]
    refine sy 10 27 rfl rfl ?_
    try simp only [Act.put, sA, s0, s1]
    refine sy 11 28 rfl rfl ?_
    try simp only [Act.put, sA, s0, s1]
    refine sy 12 29 rfl rfl ?_ (hy := by (intro w hSw; (try dsimp only at hSw); have hq := HR.out _ hSw y EY.out; obtain ⟨p0, p1⟩ := hq; go_simp; try with_reducible rfl))
    try simp only [Act.put, sA, s0, s1]
    refine sy 13 30 rfl rfl ?_
    try simp only [Act.put, sA, s0, s1]
    refine sy 14 31 rfl rfl ?_ (hy := by (intro w hSw; (try dsimp only at hSw); have hq := HB.out _ hSw; obtain ⟨⟨q0, q1, q2, q3, q4, q5, q6⟩, q7⟩ := hq; go_simp; try with_reducible rfl))
    try simp only [Act.put, sA, s0, s1]
    refine sy 15 32 rfl rfl ?_
    try simp only [Act.put, sA, s0, s1]
    refine sy 16 33 rfl rfl ?_
    try simp only [Act.put, sA, s0, s1]
    refine sy 17 34 rfl rfl ?_
    try simp only [Act.put, sA, s0, s1]
    refine wpAnyH_done (by kernel_rfl) ?_ _
    clear hHeld HB HR CHK
    go_wp2
    go_ret
    rw [CE.out, NO.out]
    exact ⟨rfl, C1.out.trans (PC.out.trans C9.out)⟩
   have AT : Hid (∀ (p : Nat) (a b : EvT), p + 1 < k + 1 → ms[p]? = some a → ms[p + 1]? = some b → ¬ (a.n = b.n ∧ a.s = b.s)) := Lib.hid (fun p a b h ha hb => by
    by_cases q : p + 1 = k
    ·
     obtain rfl : p = k - 1 := by omega
     rw [EY.out] at ha
     cases ha
     rw [show k - 1 + 1 = k by omega, EX.out] at hb
     cases hb
     exact d1
    ·
     exact AP.out p a b (by omega) ha hb)
   by_cases d2 : y.n = x.n
   ·
    have dq : ((y.n == x.n) : Bool) = true := by simpa using d2
    have dr : ((y.s == x.s) : Bool) = false := by simpa using (fun q => d1 ⟨d2, q⟩)
    refine wp_region_held_drew (S := fun w' => Chg [] w5 w') (by kernel_rfl) (Chg.refl [] w5).drew (fun hHeld => ?_)
    refine sy 0 17 rfl rfl ?_ (hy := by (intro w hSw; (try dsimp only at hSw); have hq := HB.out _ hSw; obtain ⟨⟨q0, q1, q2, q3, q4, q5, q6⟩, q7⟩ := hq; go_simp; try with_reducible rfl))
    try simp only [Act.put, sA, s0, s1]
    refine wpAnyH_ready (rs := [1]) (by kernel_rfl) (by simp) ?_
    refine AllReadyH.cons rfl (fun K hK => ?_) AllReadyH.nil
    replace hK := Lib.hid hK
    go_simp
    refine (CHK.out _ hHeld).mono ?_
    rintro r w9 ⟨rfl, hc⟩
    rw [e1]
    have C9 := Lib.hid (hHeld.trans hc)
    clear hc hHeld
    refine hK.out _ _ C9.out (fun hHeld => ?_)
    clear hK K
    try simp only [Act.put, sA, s0, s1]
    refine sy 2 19 rfl rfl ?_
    try simp only [Act.put, sA, s0, s1]
    refine sy 3 20 rfl rfl ?_
    try simp only [Act.put, sA, s0, s1]
    refine sy 4 21 rfl rfl ?_
    try simp only [Act.put, sA, s0, s1]
    refine sy 5 22 rfl rfl ?_
    try simp only [Act.put, sA, s0, s1]
    refine sy 6 23 rfl rfl ?_
    try simp only [Act.put, sA, s0, s1]
    refine sy 7 24 rfl rfl ?_ (hy := by (intro w hSw; (try dsimp only at hSw); have hq := HB.out _ hSw; obtain ⟨⟨q0, q1, q2, q3, q4, q5, q6⟩, q7⟩ := hq; go_simp; try with_reducible rfl))
    try simp only [Act.put, sA, s0, s1]
    refine sy 8 25 rfl rfl ?_
    try simp only [Act.put, sA, s0, s1]
    refine sy 9 26 rfl rfl ?_
    try simp only [Act.put, sA, s0, s1]
    refine sy 10 27 rfl rfl ?_
    try simp only [Act.put, sA, s0, s1]
    refine sy 11 28 rfl rfl ?_
    try simp only [Act.put, sA, s0, s1]
    refine sy 12 29 rfl rfl ?_ (hy := by (intro w hSw; (try dsimp only at hSw); have hq := HR.out _ hSw y EY.out; obtain ⟨p0, p1⟩ := hq; go_simp; try with_reducible rfl))
    try simp only [Act.put, sA, s0, s1]
    refine sy 13 30 rfl rfl ?_
    try simp only [Act.put, sA, s0, s1]
    refine sy 14 31 rfl rfl ?_ (hy := by (intro w hSw; (try dsimp only at hSw); have hq := HB.out _ hSw; obtain ⟨⟨q0, q1, q2, q3, q4, q5, q6⟩, q7⟩ := hq; go_simp; try with_reducible rfl))
    try simp only [Act.put, sA, s0, s1]
    refine sy 15 32 rfl rfl ?_
    try simp only [Act.put, sA, s0, s1]
    refine sy 16 33 rfl rfl ?_
    try simp only [Act.put, sA, s0, s1]
    refine sy 17 34 rfl rfl ?_
    try simp only [Act.put, sA, s0, s1]
    refine wpAnyH_done (by kernel_rfl) ?_ _
    clear hHeld HB HR CHK
    have RC9 := Lib.hid (PC.out.trans C9.out)
    go_wp2
    go_round
    case rel => exact ⟨k + 1, by omega, by go_num, OT, AT, RC9⟩
    case measure => simp [RowKit.intOf]; omega
   have dq : ((y.n == x.n) : Bool) = false := by simpa using d2
   refine wp_region_held_drew (S := fun w' => Chg [] w5 w') (by kernel_rfl) (Chg.refl [] w5).drew (fun hHeld => ?_)
   refine sy 0 17 rfl rfl ?_ (hy := by (intro w hSw; (try dsimp only at hSw); have hq := HB.out _ hSw; obtain ⟨⟨q0, q1, q2, q3, q4, q5, q6⟩, q7⟩ := hq; go_simp; try with_reducible rfl))
   try simp only [Act.put, sA, s0, s1]
   refine wpAnyH_ready (rs := [1]) (by kernel_rfl) (by simp) ?_
   refine AllReadyH.cons rfl (fun K hK => ?_) AllReadyH.nil
   replace hK := Lib.hid hK
   go_simp
   refine (CHK.out _ hHeld).mono ?_
   rintro r w9 ⟨rfl, hc⟩
   rw [e1]
   have C9 := Lib.hid (hHeld.trans hc)
   clear hc hHeld
   refine hK.out _ _ C9.out (fun hHeld => ?_)
   clear hK K
   try simp only [Act.put, sA, s0, s1]
   refine sy 2 19 rfl rfl ?_
   try simp only [Act.put, sA, s0, s1]
   refine sy 3 20 rfl rfl ?_
   try simp only [Act.put, sA, s0, s1]
   refine sy 4 21 rfl rfl ?_
   try simp only [Act.put, sA, s0, s1]
   refine sy 5 22 rfl rfl ?_
   try simp only [Act.put, sA, s0, s1]
   refine sy 6 23 rfl rfl ?_
   try simp only [Act.put, sA, s0, s1]
   refine sy 7 24 rfl rfl ?_ (hy := by (intro w hSw; (try dsimp only at hSw); have hq := HB.out _ hSw; obtain ⟨⟨q0, q1, q2, q3, q4, q5, q6⟩, q7⟩ := hq; go_simp; try with_reducible rfl))
   try simp only [Act.put, sA, s0, s1]
   refine sy 8 25 rfl rfl ?_
   try simp only [Act.put, sA, s0, s1]
   refine sy 9 26 rfl rfl ?_
   try simp only [Act.put, sA, s0, s1]
   refine sy 10 27 rfl rfl ?_
   try simp only [Act.put, sA, s0, s1]
   refine sy 11 28 rfl rfl ?_
   try simp only [Act.put, sA, s0, s1]
   refine sy 12 29 rfl rfl ?_ (hy := by (intro w hSw; (try dsimp only at hSw); have hq := HR.out _ hSw y EY.out; obtain ⟨p0, p1⟩ := hq; go_simp; try with_reducible rfl))
   try simp only [Act.put, sA, s0, s1]
   refine sy 13 30 rfl rfl ?_
   try simp only [Act.put, sA, s0, s1]
   refine sy 14 31 rfl rfl ?_ (hy := by (intro w hSw; (try dsimp only at hSw); have hq := HB.out _ hSw; obtain ⟨⟨q0, q1, q2, q3, q4, q5, q6⟩, q7⟩ := hq; go_simp; try with_reducible rfl))
   try simp only [Act.put, sA, s0, s1]
   refine sy 15 32 rfl rfl ?_
   try simp only [Act.put, sA, s0, s1]
   refine sy 16 33 rfl rfl ?_
   try simp only [Act.put, sA, s0, s1]
   refine sy 17 34 rfl rfl ?_
   try simp only [Act.put, sA, s0, s1]
   refine wpAnyH_done (by kernel_rfl) ?_ _
   clear hHeld HB HR CHK
   have RC9 := Lib.hid (PC.out.trans C9.out)
   go_wp2
   go_round
   case rel => exact ⟨k + 1, by omega, by go_num, OT, AT, RC9⟩
   case measure => simp [RowKit.intOf]; omega
  ·
   obtain rfl : k = ms.length := by omega
   have j1 : ¬ (ms.length : Int) < (ms.length : Int) := by omega
   have ET : fs.take ms.length = fs := by rw [RX.out.1]; exact List.take_length
   rw [ET] at OKK
   clear ET
   have AN : Hid (closedE fs = fs.all (bringsE fs)) := Lib.hid (closed_brings OKK.out (up_apart RX.out UP.out (fun p a b ha hb => AP.out p a b ((List.getElem?_eq_some_iff.1 hb).1) ha hb)))
   have P5 := Lib.hid (PC.out.at_ B2.out (by simp))
   have p0 := cell_of P5.out 0
   simp only [List.getElem?_toArray, List.getElem?_cons_succ, List.getElem?_cons_zero] at p0
   have SQ : Hid (∀ e ∈ fs, e.q.length ≤ 140737488351232) := Lib.hid (fun e he => (ES.out e he).2.2)
   go_wp2_with fail
   refine (evcontains_any wr gp A1 c1 ms fs P5.out (RO.out.reads.chg PC.out (by simp)) (RX.out.chg PC.out) UP.out (RF.out.chg PC.out) MN.out SQ.out).mono ?_
   rintro r w4 ⟨rfl, hc⟩
   rw [← AN.out]
   have C4 := Lib.hid ((C1.out.trans PC.out).trans hc)
   clear hc p0 AN
   go_wp2
   go_ret
   rw [CE.out]
   exact ⟨by simp, C4.out⟩
end
section
open Go.RowKit Go.Lib
set_option linter.unusedSimpArgs false
set_option linter.unusedVariables false


theorem qhasx_any (w : World) (x y : EvT) (e f : EvP) (hx : EvR w x e) (hy : EvR w y f) (hs : EvSm f) :
  Calls Tryz.prog 69 #[.slice y.B y.bl y.bc, .agg #[.int .i64 x.n, .int .i64 x.s]] w fun r w' => r = .returned (.bool (hasE f.q e.n e.s)) ∧ Chg [] w w' := by
 have h1 := hx.n
 have h2 := hx.s
 have h3 := hy.bl
 have h4 := hy.B
 rw [h3] at h4 ⊢
 rw [h1, h2]
 exact qhas_any w y.B y.bc f.q e.n e.s h4 hs.2.2

set_option maxRecDepth 100000 in
set_option maxHeartbeats 8000000 in
theorem veahead_any (w : World) (x y : EvT) (e f : EvP) (hx : EvR w x e) (hy : EvR w y f) (hs : EvSm e) (ht : EvSm f) :
  Calls Tryz.prog 20 #[.agg #[.int .i64 x.n, .int .i64 x.s, .string x.p, .int .i64 x.k, .int .i64 x.m, .slice x.A x.l x.c, .slice x.B x.bl x.bc], .agg #[.int .i64 y.n, .int .i64 y.s, .string y.p, .int .i64 y.k, .int .i64 y.m, .slice y.A y.l y.c, .slice y.B y.bl y.bc]] w fun r w' => r = .returned (.bool (aheadP e f)) ∧ Chg [] w w' := by
 obtain ⟨w2, hw, hc, b0, b1⟩ := news2 w (.cells #[.int .i64 x.n, .int .i64 x.s, .string x.p, .int .i64 x.k, .int .i64 x.m, .slice x.A x.l x.c, .slice x.B x.bl x.bc] 29) (.cells #[.int .i64 y.n, .int .i64 y.s, .string y.p, .int .i64 y.k, .int .i64 y.m, .slice y.A y.l y.c, .slice y.B y.bl y.bc] 29)
 have W2 := Lib.hid hw
 have C := Lib.hid hc
 have HX := Lib.hid (hx.chg hc)
 have HY := Lib.hid (hy.chg hc)
 have HS := Lib.hid hs
 have HT := Lib.hid ht
 have B0 := Lib.hid b0
 have B1 := Lib.hid b1
 generalize hv : aheadP e f = v
 have HV := Lib.hid hv
 clear hv hw hc hx hy hs ht b0 b1
 go_enter Tryz.func20, Tryz.ntmps20
 go_upto_region 1 with fail
 rw [← W2.out]
 generalize w.heap.size + 1 = g1 at *
 generalize w.heap.size = g0 at *
 have z0 := cell_of B0.out 0
 have z1 := cell_of B0.out 1
 have z2 := cell_of B0.out 2
 have z3 := cell_of B0.out 3
 have z4 := cell_of B0.out 4
 have z5 := cell_of B0.out 5
 have z6 := cell_of B0.out 6
 have y0 := cell_of B1.out 0
 have y1 := cell_of B1.out 1
 have y2 := cell_of B1.out 2
 have y3 := cell_of B1.out 3
 have y4 := cell_of B1.out 4
 have y5 := cell_of B1.out 5
 have y6 := cell_of B1.out 6
 simp only [List.getElem?_toArray, List.getElem?_cons_succ, List.getElem?_cons_zero] at z0 y0 z1 y1 z2 y2 z3 y3 z4 y4 z5 y5 z6 y6
 go_wp2_with fail
 refine (vecheck_any w2 x e HX.out HS.out).mono ?_
 rintro r w3 ⟨rfl, hc⟩
 clear z0 y0 z1 y1 z2 y2 z3 y3 z4 y4 z5 y5 z6 y6
 replace C := Lib.hid (C.out.trans hc)
 replace HX := Lib.hid (HX.out.chg hc)
 replace HY := Lib.hid (HY.out.chg hc)
 replace B0 := Lib.hid (hc.at_ B0.out (by simp))
 replace B1 := Lib.hid (hc.at_ B1.out (by simp))
 clear hc
 rcases chkEv_two e with ha | ha
 rotate_left
 ·
  obtain rfl : v = false := by rw [← HV.out]; unfold aheadP; rw [ha]; simp
  rw [ha]
  go_wp2
  go_ret
  exact ⟨rfl, C.out⟩
 rw [ha]
 have z0 := cell_of B0.out 0
 have z1 := cell_of B0.out 1
 have z2 := cell_of B0.out 2
 have z3 := cell_of B0.out 3
 have z4 := cell_of B0.out 4
 have z5 := cell_of B0.out 5
 have z6 := cell_of B0.out 6
 have y0 := cell_of B1.out 0
 have y1 := cell_of B1.out 1
 have y2 := cell_of B1.out 2
 have y3 := cell_of B1.out 3
 have y4 := cell_of B1.out 4
 have y5 := cell_of B1.out 5
 have y6 := cell_of B1.out 6
 simp only [List.getElem?_toArray, List.getElem?_cons_succ, List.getElem?_cons_zero] at z0 y0 z1 y1 z2 y2 z3 y3 z4 y4 z5 y5 z6 y6
 go_wp2_with fail
 refine (vecheck_any w3 y f HY.out HT.out).mono ?_
 rintro r w4 ⟨rfl, hc⟩
 clear z0 y0 z1 y1 z2 y2 z3 y3 z4 y4 z5 y5 z6 y6
 replace C := Lib.hid (C.out.trans hc)
 replace HX := Lib.hid (HX.out.chg hc)
 replace HY := Lib.hid (HY.out.chg hc)
 replace B0 := Lib.hid (hc.at_ B0.out (by simp))
 replace B1 := Lib.hid (hc.at_ B1.out (by simp))
 clear hc
 rcases chkEv_two f with hb | hb
 rotate_left
 ·
  obtain rfl : v = false := by rw [← HV.out]; unfold aheadP; rw [hb]; simp
  rw [hb]
  go_wp2
  go_ret
  exact ⟨rfl, C.out⟩
 rw [hb]
 have z0 := cell_of B0.out 0
 have z1 := cell_of B0.out 1
 have z2 := cell_of B0.out 2
 have z3 := cell_of B0.out 3
 have z4 := cell_of B0.out 4
 have z5 := cell_of B0.out 5
 have z6 := cell_of B0.out 6
 have y0 := cell_of B1.out 0
 have y1 := cell_of B1.out 1
 have y2 := cell_of B1.out 2
 have y3 := cell_of B1.out 3
 have y4 := cell_of B1.out 4
 have y5 := cell_of B1.out 5
 have y6 := cell_of B1.out 6
 simp only [List.getElem?_toArray, List.getElem?_cons_succ, List.getElem?_cons_zero] at z0 y0 z1 y1 z2 y2 z3 y3 z4 y4 z5 y5 z6 y6
 go_wp2_with fail
 refine (qhasx_any w4 x y e f HX.out HY.out HT.out).mono ?_
 rintro r w5 ⟨rfl, hc⟩
 clear z0 y0 z1 y1 z2 y2 z3 y3 z4 y4 z5 y5 z6 y6
 replace C := Lib.hid (C.out.trans hc)
 replace HX := Lib.hid (HX.out.chg hc)
 replace HY := Lib.hid (HY.out.chg hc)
 replace B0 := Lib.hid (hc.at_ B0.out (by simp))
 replace B1 := Lib.hid (hc.at_ B1.out (by simp))
 clear hc
 rcases hh : hasE f.q e.n e.s with _ | _
 ·
  obtain rfl : v = false := by rw [← HV.out]; unfold aheadP; rw [hh]; rfl
  go_wp2
  go_ret
  exact ⟨rfl, C.out⟩
 obtain rfl : v = true := by rw [← HV.out]; unfold aheadP; rw [hh, ha, hb]; rfl
 go_wp2
 go_ret
 exact ⟨rfl, C.out⟩
end
section
open Go.RowKit Go.Lib
set_option linter.unusedSimpArgs false
set_option linter.unusedVariables false


set_option maxRecDepth 100000 in
set_option maxHeartbeats 8000000 in
theorem qwithin_any (w : World) (A : Option Addr) (c : Nat) (xs : List Sp) (B : Option Addr) (d : Nat) (ys : List Sp) (h : RdK spanTy w A xs.length xs) (h' : RdK spanTy w B ys.length ys) (hn : xs.length ≤ 140737488351232) (hm : ys.length ≤ 140737488351232) :
  Calls Tryz.prog 99 #[.slice A xs.length c, .slice B ys.length d] w fun e w' => e = .returned (.bool (withinE xs ys)) ∧ Chg [] w w' := by
 have H := Lib.hid h
 have H' := Lib.hid h'
 have HN := Lib.hid hn
 have HM := Lib.hid hm
 clear h h' hn hm
 rcases chk_two xs with e1 | e1
 rotate_left
 ·
  have EJ : Hid (withinE xs ys = false) := Lib.hid (by unfold withinE; rw [decide_eq_false (by omega)]; rfl)
  go_enter Tryz.func99, Tryz.ntmps99
  go_wp2_with fail
  refine (qacheck_any w A _ c xs H.out HN.out).mono ?_
  rintro e w2 ⟨rfl, hc⟩
  rw [e1]
  have C := Lib.hid hc
  clear hc
  go_wp2
  go_ret
  rw [EJ.out]
  exact ⟨rfl, C.out⟩
 rcases chk_two ys with e2 | e2
 rotate_left
 ·
  have EJ : Hid (withinE xs ys = false) := Lib.hid (by unfold withinE; rw [decide_eq_false (by omega)]; rfl)
  go_enter Tryz.func99, Tryz.ntmps99
  go_wp2_with fail
  refine (qacheck_any w A _ c xs H.out HN.out).mono ?_
  rintro e w2 ⟨rfl, hc⟩
  rw [e1]
  have C := Lib.hid hc
  clear hc
  go_wp2_with fail
  refine (qacheck_any w2 B _ d ys (H'.out.chg C.out (by simp)) HM.out).mono ?_
  rintro e w3 ⟨rfl, hc⟩
  rw [e2]
  replace C := Lib.hid (C.out.trans hc)
  clear hc
  go_wp2
  go_ret
  rw [EJ.out]
  exact ⟨rfl, C.out⟩
 have EJ : Hid (withinE xs ys = decide ((ys.foldl withoutP xs).length = 0)) := Lib.hid (within_len e1 e2)
 rw [EJ.out]
 clear EJ
 generalize hRR : decide ((ys.foldl withoutP xs).length = 0) = RR
 have HRR := Lib.hid hRR
 clear hRR
 have WX := wf_of_chk e1
 have WD := wf_of_chk e2
 have WA := Lib.hid WX.1
 have WB := Lib.hid WD.1
 have HL : Hid (xs.length ≤ 4000 ∧ ys.length ≤ 4000) := Lib.hid ⟨WX.2, WD.2⟩
 have W1 := Lib.hid e1
 have W2 := Lib.hid e2
 clear WX WD
 go_enter Tryz.func99, Tryz.ntmps99
 go_wp2_with fail
 refine (qacheck_any w A _ c xs H.out HN.out).mono ?_
 rintro e w2 ⟨rfl, hc⟩
 rw [e1]
 have C := Lib.hid hc
 clear hc
 go_wp2_with fail
 refine (qacheck_any w2 B _ d ys (H'.out.chg C.out (by simp)) HM.out).mono ?_
 rintro e w3 ⟨rfl, hc⟩
 rw [e2]
 replace C := Lib.hid (C.out.trans hc)
 clear hc e1 e2
 obtain ⟨w4, hw, cn, bn⟩ := news1 w3 (.cells #[] 62)
 have W4 := Lib.hid hw
 have EO := Lib.hid (own_emptyS bn)
 have SZ := Lib.hid (fun a (ha : (some ⟨w3.heap.size, 0, none⟩ : Option Addr) = some a) => (show w.heap.size ≤ a.block from by cases ha; exact C.out.size))
 replace C := Lib.hid (C.out.trans cn)
 have N1 : Hid ((0 + xs.length) * 400 ≤ 140737488355327) := Lib.hid (by have := HL.out; omega)
 clear hw cn bn
 go_wp2_with (first
  | (at_builtin; rw [← W4.out]; refine wpList_appK (R := spanTy) rfl (.tmp 15) (.tmp 16) rfl rfl (A := some ⟨w3.heap.size, 0, none⟩) (n := 0) (c := 0) (xs := []) EO.out rfl rfl (H.out.chg C.out (by simp)) N1.out ?_; rw [Nat.zero_add]; intro A5 c5 w5 o5 g5 e5; have O5 := Lib.hid o5; have F5 := Lib.hid (fresh_appS SZ.out C.out g5 e5); clear o5 g5 e5))
 rw [List.nil_append] at O5
 clear W4 EO SZ
 go_loopw [5, 6] (fun o i wr => ∃ (k : Nat) (A' : Option Addr) (d' : Nat), k ≤ ys.length ∧ i = .int .i64 k ∧ o = .slice A' ((ys.take k).foldl withoutP xs).length d' ∧ Hid (OwnK spanTy wr A' d' ((ys.take k).foldl withoutP xs)) ∧ Hid (∀ a, A' = some a → w.heap.size ≤ a.block) ∧ Hid (Chg [] w wr)) (fun o i _ => ys.length - (RowKit.intOf i).toNat)
 case atStart => exact ⟨0, A5, c5, Nat.zero_le _, rfl, rfl, O5, Lib.hid F5.out.1, F5.out.2⟩
 case round =>
  obtain ⟨k, A1, d1, hi, rfl, rfl, RO, RN, RC⟩ := hrel
  have i0 : (0 : Int) ≤ (k : Int) := by omega
  by_cases hlt : k < ys.length
  ·
   have i1 : (k : Int) < (ys.length : Int) := by omega
   have i3 : IntKind.i64.wrap ((k : Int) + 1) = (k : Int) + 1 := IntWalk.i64_in _ (by have := HL.out; omega)
   obtain ⟨y, hy⟩ : ∃ y, ys[k]? = some y := ⟨_, List.getElem?_eq_getElem hlt⟩
   obtain ⟨g, o, eA, _⟩ := H'.out.line (by omega)
   subst eA
   have FS := Lib.hid (wouts_succ (a := xs) hy)
   have WK := Lib.hid (wouts_ok WA.out WB.out k)
   have YB := Lib.hid (fin_of WB.out y (List.mem_of_getElem? hy))
   generalize (ys.take k).foldl withoutP xs = out at *
   obtain ⟨q0, q1, q2⟩ := spanCells (H'.out.chg RC.out (by simp)) hy
   clear hy
   go_wp2_with fail
   clear q0 q1 q2
   refine (qwithout_any wr A1 d1 out y RO.out.reads (by have := WK.out.2; have := HL.out; omega) (fin_of WK.out.1) YB.out).mono ?_
   rintro e w6 ⟨A7, c7, rfl, ho, hn, hc⟩
   have O7 := Lib.hid ho
   have N7 : Hid (∀ a, A7 = some a → w.heap.size ≤ a.block) := Lib.hid (fun a ha => Nat.le_trans RC.out.size (hn a ha))
   have C7 := Lib.hid (RC.out.trans hc)
   clear ho hn hc
   go_wp2
   go_round
   case rel => exact ⟨k + 1, A7, c7, by omega, by go_num, by rw [FS.out], by rw [FS.out]; exact O7, N7, C7⟩
   case measure => simp [RowKit.intOf]; omega
  ·
   obtain rfl : k = ys.length := by omega
   rw [List.take_length] at RO ⊢
   have i1 : ¬ (ys.length : Int) < (ys.length : Int) := by omega
   generalize ys.foldl withoutP xs = out at *
   by_cases hb : out.length = 0
   ·
    have hb1 : ((out.length : Int) == 0) = true := by simpa using hb
    obtain rfl : RR = true := by rw [← HRR.out]; exact decide_eq_true hb
    rw [hb] at hb1 ⊢
    clear hb
    go_wp2
    go_ret
    exact ⟨rfl, RC.out⟩
   ·
    have hb1 : ((out.length : Int) == 0) = false := beq_eq_false_iff_ne.2 (by omega)
    obtain rfl : RR = false := by rw [← HRR.out]; exact decide_eq_false hb
    clear hb
    go_wp2
    go_ret
    exact ⟨rfl, RC.out⟩
end
section
open Go.RowKit Go.Lib
set_option linter.unusedSimpArgs false
set_option linter.unusedVariables false


set_option maxRecDepth 100000 in
set_option maxHeartbeats 16000000 in
theorem veclosed_any (w : World) (A : Option Addr) (c : Nat) (xs : List EvT) (es : List EvP) (h : RdK evTy w A xs.length xs) (hx : EvsR w xs es) (hn : xs.length ≤ 100000) (hs : ∀ e ∈ es, EvSm e) :
  Calls Tryz.prog 34 #[.slice A xs.length c] w fun r w' => r = .returned (.bool (closedE es)) ∧ Chg [] w w' := by

 have HA := Lib.hid h
 have HX := Lib.hid hx
 have HN := Lib.hid hn
 have HS := Lib.hid hs
 clear h hx hn hs
 go_enter Tryz.func34, Tryz.ntmps34
 go_wp2
 go_loopw [3] (fun v3 wr => ∃ (i : Nat), i ≤ xs.length ∧ v3 = .int .i64 i ∧ Hid (okAll (es.take i) = true) ∧ Hid (∀ (j k : Nat) (a b : EvP), j < i → es[j]? = some a → es[k]? = some b → k ≠ j → OneWay a b) ∧ Hid (Chg [] w wr)) (fun v3 _ => xs.length - (RowKit.intOf v3).toNat)
 case atStart => exact ⟨0, Nat.zero_le _, rfl, Lib.hid rfl, Lib.hid (fun j k a b h => absurd h (by omega)), Chg.refl _ _⟩
 case round =>
  obtain ⟨i, hi, rfl, OKK, OW, PC⟩ := hrel
  have j0 : (0 : Int) ≤ (i : Int) := by omega
  by_cases hlt : i < xs.length
  rotate_left
  ·
   obtain rfl : i = xs.length := by omega
   have j1 : ¬ (xs.length : Int) < (xs.length : Int) := by omega
   have ET : es.take xs.length = es := by rw [HX.out.1]; exact List.take_length
   rw [ET] at OKK
   clear ET
   have YES : Hid (closedE es = true) := Lib.hid (closed_yes OKK.out (fun j k a b ha hb hne => OW.out j k a b (by rw [HX.out.1]; exact (List.getElem?_eq_some_iff.1 ha).1) ha hb hne))
   go_wp2
   go_ret
   rw [YES.out]
   exact ⟨rfl, PC.out⟩
  have j1 : (i : Int) < (xs.length : Int) := by omega
  have j3 : IntKind.i64.wrap ((i : Int) + 1) = (i : Int) + 1 := IntWalk.i64_in _ (by have := HN.out; omega)
  obtain ⟨g, o, eA, _⟩ := HA.out.line (by omega)
  subst eA
  obtain ⟨x, e, ex, ee, rx⟩ := HX.out.at_ hlt
  obtain ⟨z0, z1, z2, z3, z4, z5, z6⟩ := evCells (HA.out.chg PC.out (by simp)) ex
  have EX := Lib.hid ex
  have EE := Lib.hid ee
  have RX := Lib.hid rx
  have ES := Lib.hid (HS.out e (List.mem_of_getElem? ee))
  clear ex ee rx
  go_wp2_with fail
  clear z0 z1 z2 z3 z4 z5 z6
  refine (vecheck_any wr x e (RX.out.chg PC.out) ES.out).mono ?_
  rintro r w4 ⟨rfl, hc⟩
  have PC4 := Lib.hid (PC.out.trans hc)
  clear hc PC
  rcases chkEv_two e with e1 | e1
  rotate_left
  ·
   have NO : Hid (closedE es = false) := Lib.hid (closed_no_chk EE.out (by omega))
   rw [e1]
   clear e1
   go_wp2
   go_ret
   rw [NO.out]
   exact ⟨rfl, PC4.out⟩
  have OT : Hid (okAll (es.take (i + 1)) = true) := Lib.hid (by rw [okAll_take EE.out, OKK.out, e1]; rfl)
  rw [e1]
  clear e1
  go_wp2
  go_loopw [4] (fun v4 wr => ∃ (k : Nat), k ≤ xs.length ∧ v4 = .int .i64 k ∧ Hid (∀ (p : Nat) (b : EvP), p < k → es[p]? = some b → p ≠ i → OneWay e b) ∧ Hid (Chg [] w wr)) (fun v4 _ => xs.length - (RowKit.intOf v4).toNat)
  case atStart => exact ⟨0, Nat.zero_le _, rfl, Lib.hid (fun p b h => absurd h (by omega)), PC4⟩
  case round =>
   obtain ⟨k, hk, rfl, OK, PC⟩ := hrel
   have l0 : (0 : Int) ≤ (k : Int) := by omega
   by_cases hkl : k < xs.length
   rotate_left
   ·
    have l1 : ¬ (k : Int) < (xs.length : Int) := by omega
    have OW1 : Hid (∀ (j k : Nat) (a b : EvP), j < i + 1 → es[j]? = some a → es[k]? = some b → k ≠ j → OneWay a b) := Lib.hid (fun j p a b h ha hb hne => by
     by_cases q : j = i
     ·
      subst q
      rw [EE.out] at ha
      cases ha
      exact OK.out p b (by have := (List.getElem?_eq_some_iff.1 hb).1; have := HX.out.1; omega) hb hne
     ·
      exact OW.out j p a b (by omega) ha hb hne)
    go_wp2
    go_round
    case rel => exact ⟨i + 1, by omega, by go_num, OT, OW1, PC⟩
    case measure => simp [RowKit.intOf]; omega
   have l1 : (k : Int) < (xs.length : Int) := by omega
   have l3 : IntKind.i64.wrap ((k : Int) + 1) = (k : Int) + 1 := IntWalk.i64_in _ (by have := HN.out; omega)
   obtain ⟨y, f, ey, ef, ry⟩ := HX.out.at_ hkl
   have EF := Lib.hid ef
   have RY := Lib.hid ry
   have FS := Lib.hid (HS.out f (List.mem_of_getElem? ef))
   have HH : Hid (∀ w', Chg [] wr w' → (w'.cell? ⟨g, o + i * 7, none⟩ = some (.int .i64 x.n) ∧ w'.cell? ⟨g, o + i * 7 + 1, none⟩ = some (.int .i64 x.s) ∧ w'.cell? ⟨g, o + i * 7 + 2, none⟩ = some (.string x.p) ∧ w'.cell? ⟨g, o + i * 7 + 3, none⟩ = some (.int .i64 x.k) ∧ w'.cell? ⟨g, o + i * 7 + 4, none⟩ = some (.int .i64 x.m) ∧ w'.cell? ⟨g, o + i * 7 + 5, none⟩ = some (.slice x.A x.l x.c) ∧ w'.cell? ⟨g, o + i * 7 + 6, none⟩ = some (.slice x.B x.bl x.bc)) ∧ (w'.cell? ⟨g, o + k * 7, none⟩ = some (.int .i64 y.n) ∧ w'.cell? ⟨g, o + k * 7 + 1, none⟩ = some (.int .i64 y.s) ∧ w'.cell? ⟨g, o + k * 7 + 2, none⟩ = some (.string y.p) ∧ w'.cell? ⟨g, o + k * 7 + 3, none⟩ = some (.int .i64 y.k) ∧ w'.cell? ⟨g, o + k * 7 + 4, none⟩ = some (.int .i64 y.m) ∧ w'.cell? ⟨g, o + k * 7 + 5, none⟩ = some (.slice y.A y.l y.c) ∧ w'.cell? ⟨g, o + k * 7 + 6, none⟩ = some (.slice y.B y.bl y.bc))) := Lib.hid (fun w' hc => ⟨evCells (HA.out.chg (PC.out.trans hc) (by simp)) EX.out, evCells (HA.out.chg (PC.out.trans hc) (by simp)) ey⟩)
   have AH : Hid (∀ w', Chg [] wr w' → Calls Tryz.prog 20 #[.agg #[.int .i64 x.n, .int .i64 x.s, .string x.p, .int .i64 x.k, .int .i64 x.m, .slice x.A x.l x.c, .slice x.B x.bl x.bc], .agg #[.int .i64 y.n, .int .i64 y.s, .string y.p, .int .i64 y.k, .int .i64 y.m, .slice y.A y.l y.c, .slice y.B y.bl y.bc]] w' fun r w2 => r = .returned (.bool (aheadP e f)) ∧ Chg [] w' w2) := Lib.hid (fun w' hc => veahead_any w' x y e f (RX.out.chg (PC.out.trans hc)) (RY.out.chg (PC.out.trans hc)) ES.out FS.out)
   have WI : Hid (∀ w', Chg [] wr w' → Calls Tryz.prog 99 #[.slice x.B x.bl x.bc, .slice y.B y.bl y.bc] w' fun r w2 => r = .returned (.bool (withinE e.q f.q)) ∧ Chg [] w' w2) := Lib.hid (fun w' hc => by
    have a := (RX.out.chg (PC.out.trans hc)).B
    have b := (RY.out.chg (PC.out.trans hc)).B
    rw [RX.out.bl] at a ⊢
    rw [RY.out.bl] at b ⊢
    exact qwithin_any w' x.B x.bc e.q y.B y.bc f.q a b ES.out.2.2 FS.out.2.2)
   clear ey ef ry
   go_upto_region 9 with fail
   by_cases ki : k = i
   ·
    obtain rfl := ki
    have OK1 : Hid (∀ (p : Nat) (b : EvP), p < k + 1 → es[p]? = some b → p ≠ k → OneWay e b) := Lib.hid (fun p b h hb hne => OK.out p b (by omega) hb hne)
    refine wp_region_held_drew (S := fun w' => Chg [] wr w') (by kernel_rfl) (Chg.refl [] wr).drew (fun hHeld => ?_)
    have CQ := Lib.hid hHeld
    refine sy 0 23 rfl rfl ?_
    try simp only [Act.put, sA, s0, s1]
    refine sy 1 24 rfl rfl ?_
    try simp only [Act.put, sA, s0, s1]
    refine sy 2 25 rfl rfl ?_
    try simp only [Act.put, sA, s0, s1]
    refine sy 3 26 rfl rfl ?_
    try simp only [Act.put, sA, s0, s1]
    refine sn 4 27 rfl rfl ?_
    try simp only [Act.put, sA, s0, s1]
    refine sn 5 28 rfl rfl ?_
    try simp only [Act.put, sA, s0, s1]
    refine sn 6 29 rfl rfl ?_
    try simp only [Act.put, sA, s0, s1]
    refine sn 7 30 rfl rfl ?_
    try simp only [Act.put, sA, s0, s1]
    refine sn 8 31 rfl rfl ?_
    try simp only [Act.put, sA, s0, s1]
    refine sn 9 32 rfl rfl ?_
    try simp only [Act.put, sA, s0, s1]
    refine sn 10 33 rfl rfl ?_
    try simp only [Act.put, sA, s0, s1]
    refine sn 11 34 rfl rfl ?_
    try simp only [Act.put, sA, s0, s1]
    refine sn 12 35 rfl rfl ?_
    try simp only [Act.put, sA, s0, s1]
    refine sn 13 36 rfl rfl ?_
    try simp only [Act.put, sA, s0, s1]
    refine sn 14 37 rfl rfl ?_
    try simp only [Act.put, sA, s0, s1]
    refine sn 15 38 rfl rfl ?_
    try simp only [Act.put, sA, s0, s1]
    refine sn 16 39 rfl rfl ?_
    try simp only [Act.put, sA, s0, s1]
    refine sn 17 40 rfl rfl ?_
    try simp only [Act.put, sA, s0, s1]
    refine sn 18 41 rfl rfl ?_
    try simp only [Act.put, sA, s0, s1]
    refine sn 19 42 rfl rfl ?_
    try simp only [Act.put, sA, s0, s1]
    refine sn 20 43 rfl rfl ?_
    try simp only [Act.put, sA, s0, s1]
    refine sn 21 44 rfl rfl ?_
    try simp only [Act.put, sA, s0, s1]
    refine sn 22 45 rfl rfl ?_
    try simp only [Act.put, sA, s0, s1]
    refine sn 23 46 rfl rfl ?_
    try simp only [Act.put, sA, s0, s1]
    refine sn 24 47 rfl rfl ?_
    try simp only [Act.put, sA, s0, s1]
    refine sn 25 48 rfl rfl ?_
    try simp only [Act.put, sA, s0, s1]
    refine sn 26 49 rfl rfl ?_
    try simp only [Act.put, sA, s0, s1]
    refine sn 27 50 rfl rfl ?_
    try simp only [Act.put, sA, s0, s1]
    refine sn 28 51 rfl rfl ?_
    try simp only [Act.put, sA, s0, s1]
    refine sn 29 52 rfl rfl ?_
    try simp only [Act.put, sA, s0, s1]
    refine sn 30 53 rfl rfl ?_
    try simp only [Act.put, sA, s0, s1]
    refine sn 31 54 rfl rfl ?_
    try simp only [Act.put, sA, s0, s1]
    refine sn 32 55 rfl rfl ?_
    try simp only [Act.put, sA, s0, s1]
    refine sn 33 56 rfl rfl ?_
    try simp only [Act.put, sA, s0, s1]
    refine sn 34 57 rfl rfl ?_
    try simp only [Act.put, sA, s0, s1]
    refine sn 35 58 rfl rfl ?_
    try simp only [Act.put, sA, s0, s1]
    refine sn 36 59 rfl rfl ?_
    try simp only [Act.put, sA, s0, s1]
    refine sn 37 60 rfl rfl ?_
    try simp only [Act.put, sA, s0, s1]
    refine sn 38 61 rfl rfl ?_
    try simp only [Act.put, sA, s0, s1]
    refine sn 39 62 rfl rfl ?_
    try simp only [Act.put, sA, s0, s1]
    refine sy 40 63 rfl rfl ?_
    try simp only [Act.put, sA, s0, s1]
    refine wpAnyH_done (by kernel_rfl) ?_ _
    clear hHeld HH AH WI
    have TT := Lib.hid (PC.out.trans CQ.out)
    go_wp2
    go_round
    case rel => exact ⟨k + 1, by omega, by go_num, OK1, TT⟩
    case measure => simp [RowKit.intOf]; omega
   have n1 : (((k : Nat) : Int) != ((i : Nat) : Int)) = true := by simp; omega
   have n2 : (((k : Nat) : Int) == ((i : Nat) : Int)) = false := by simp; omega
   by_cases d1 : x.n = y.n ∧ x.s = y.s
   ·
    have NO : Hid (closedE es = false) := Lib.hid (closed_no_two EE.out EF.out ki (fun q => q.1 (by rw [← RX.out.n, ← RX.out.s, ← RY.out.n, ← RY.out.s]; exact d1)))
    have dq : ((x.n == y.n) : Bool) = true := by simpa using d1.1
    have dr : ((x.s == y.s) : Bool) = true := by simpa using d1.2
    refine wp_region_held_drew (S := fun w' => Chg [] wr w') (by kernel_rfl) (Chg.refl [] wr).drew (fun hHeld => ?_)
    have CQ := Lib.hid hHeld
    refine sy 0 23 rfl rfl ?_
    try simp only [Act.put, sA, s0, s1]
    refine sy 1 24 rfl rfl ?_
    try simp only [Act.put, sA, s0, s1]
    refine sy 2 25 rfl rfl ?_
    try simp only [Act.put, sA, s0, s1]
    refine sy 3 26 rfl rfl ?_
    try simp only [Act.put, sA, s0, s1]
    refine sy 4 27 rfl rfl ?_
    try simp only [Act.put, sA, s0, s1]
    refine sy 5 28 rfl rfl ?_
    try simp only [Act.put, sA, s0, s1]
    refine sy 6 29 rfl rfl ?_
    try simp only [Act.put, sA, s0, s1]
    refine sy 7 30 rfl rfl ?_
    try simp only [Act.put, sA, s0, s1]
    refine sy 8 31 rfl rfl ?_ (hy := by (intro w hSw; (try dsimp only at hSw); have hq := HH.out _ hSw; obtain ⟨⟨q0, q1, q2, q3, q4, q5, q6⟩, ⟨p0, p1, p2, p3, p4, p5, p6⟩⟩ := hq; go_simp; try with_reducible rfl))
    try simp only [Act.put, sA, s0, s1]
    refine sy 9 32 rfl rfl ?_
    try simp only [Act.put, sA, s0, s1]
    refine sy 10 33 rfl rfl ?_
    try simp only [Act.put, sA, s0, s1]
    refine sy 11 34 rfl rfl ?_
    try simp only [Act.put, sA, s0, s1]
    refine sy 12 35 rfl rfl ?_
    try simp only [Act.put, sA, s0, s1]
    refine sy 13 36 rfl rfl ?_ (hy := by (intro w hSw; (try dsimp only at hSw); have hq := HH.out _ hSw; obtain ⟨⟨q0, q1, q2, q3, q4, q5, q6⟩, ⟨p0, p1, p2, p3, p4, p5, p6⟩⟩ := hq; go_simp; try with_reducible rfl))
    try simp only [Act.put, sA, s0, s1]
    refine sy 14 37 rfl rfl ?_
    try simp only [Act.put, sA, s0, s1]
    refine sy 15 38 rfl rfl ?_
    try simp only [Act.put, sA, s0, s1]
    refine sn 16 39 rfl rfl ?_
    try simp only [Act.put, sA, s0, s1]
    refine sn 17 40 rfl rfl ?_
    try simp only [Act.put, sA, s0, s1]
    refine sn 18 41 rfl rfl ?_
    try simp only [Act.put, sA, s0, s1]
    refine sn 19 42 rfl rfl ?_
    try simp only [Act.put, sA, s0, s1]
    refine sn 20 43 rfl rfl ?_
    try simp only [Act.put, sA, s0, s1]
    refine sn 21 44 rfl rfl ?_
    try simp only [Act.put, sA, s0, s1]
    refine sn 22 45 rfl rfl ?_
    try simp only [Act.put, sA, s0, s1]
    refine sn 23 46 rfl rfl ?_
    try simp only [Act.put, sA, s0, s1]
    refine sn 24 47 rfl rfl ?_
    try simp only [Act.put, sA, s0, s1]
    refine sn 25 48 rfl rfl ?_
    try simp only [Act.put, sA, s0, s1]
    refine sn 26 49 rfl rfl ?_
    try simp only [Act.put, sA, s0, s1]
    refine sn 27 50 rfl rfl ?_
    try simp only [Act.put, sA, s0, s1]
    refine sn 28 51 rfl rfl ?_
    try simp only [Act.put, sA, s0, s1]
    refine sn 29 52 rfl rfl ?_
    try simp only [Act.put, sA, s0, s1]
    refine sn 30 53 rfl rfl ?_
    try simp only [Act.put, sA, s0, s1]
    refine sn 31 54 rfl rfl ?_
    try simp only [Act.put, sA, s0, s1]
    refine sn 32 55 rfl rfl ?_
    try simp only [Act.put, sA, s0, s1]
    refine sn 33 56 rfl rfl ?_
    try simp only [Act.put, sA, s0, s1]
    refine sn 34 57 rfl rfl ?_
    try simp only [Act.put, sA, s0, s1]
    refine sn 35 58 rfl rfl ?_
    try simp only [Act.put, sA, s0, s1]
    refine sn 36 59 rfl rfl ?_
    try simp only [Act.put, sA, s0, s1]
    refine sn 37 60 rfl rfl ?_
    try simp only [Act.put, sA, s0, s1]
    refine sn 38 61 rfl rfl ?_
    try simp only [Act.put, sA, s0, s1]
    refine sy 39 62 rfl rfl ?_
    try simp only [Act.put, sA, s0, s1]
    refine sy 40 63 rfl rfl ?_
    try simp only [Act.put, sA, s0, s1]
    refine wpAnyH_done (by kernel_rfl) ?_ _
    clear hHeld HH AH WI
    have TT := Lib.hid (PC.out.trans CQ.out)
    go_wp2
    go_ret
    rw [NO.out]
    exact ⟨rfl, TT.out⟩
   have d3 : ¬ (e.n = f.n ∧ e.s = f.s) := by rw [← RX.out.n, ← RX.out.s, ← RY.out.n, ← RY.out.s]; exact d1
   by_cases d2 : x.n = y.n
   ·
    have dq : ((x.n == y.n) : Bool) = true := by simpa using d2
    have dr : ((x.s == y.s) : Bool) = false := by simpa using (fun q => d1 ⟨d2, q⟩)
    clear d1 d2
    rcases ah : aheadP e f with _ | _
    ·
     skip
     have OK1 : Hid (∀ (p : Nat) (b : EvP), p < k + 1 → es[p]? = some b → p ≠ i → OneWay e b) := Lib.hid (fun p b h hb hne => by
      by_cases q : p = k
      ·
       subst q; rw [EF.out] at hb; cases hb; exact ⟨d3, fun z => by rw [ah] at z; cases z⟩
      ·
       exact OK.out p b (by omega) hb hne)
     refine wp_region_held_drew (S := fun w' => Chg [] wr w') (by kernel_rfl) (Chg.refl [] wr).drew (fun hHeld => ?_)
     refine sy 0 23 rfl rfl ?_
     try simp only [Act.put, sA, s0, s1]
     refine sy 1 24 rfl rfl ?_
     try simp only [Act.put, sA, s0, s1]
     refine sy 2 25 rfl rfl ?_
     try simp only [Act.put, sA, s0, s1]
     refine sy 3 26 rfl rfl ?_
     try simp only [Act.put, sA, s0, s1]
     refine sy 4 27 rfl rfl ?_
     try simp only [Act.put, sA, s0, s1]
     refine sy 5 28 rfl rfl ?_
     try simp only [Act.put, sA, s0, s1]
     refine sy 6 29 rfl rfl ?_
     try simp only [Act.put, sA, s0, s1]
     refine sy 7 30 rfl rfl ?_
     try simp only [Act.put, sA, s0, s1]
     refine sy 8 31 rfl rfl ?_ (hy := by (intro w hSw; (try dsimp only at hSw); have hq := HH.out _ hSw; obtain ⟨⟨q0, q1, q2, q3, q4, q5, q6⟩, ⟨p0, p1, p2, p3, p4, p5, p6⟩⟩ := hq; go_simp; try with_reducible rfl))
     try simp only [Act.put, sA, s0, s1]
     refine sy 9 32 rfl rfl ?_
     try simp only [Act.put, sA, s0, s1]
     refine sy 10 33 rfl rfl ?_
     try simp only [Act.put, sA, s0, s1]
     refine sy 11 34 rfl rfl ?_
     try simp only [Act.put, sA, s0, s1]
     refine sy 12 35 rfl rfl ?_
     try simp only [Act.put, sA, s0, s1]
     refine sy 13 36 rfl rfl ?_ (hy := by (intro w hSw; (try dsimp only at hSw); have hq := HH.out _ hSw; obtain ⟨⟨q0, q1, q2, q3, q4, q5, q6⟩, ⟨p0, p1, p2, p3, p4, p5, p6⟩⟩ := hq; go_simp; try with_reducible rfl))
     try simp only [Act.put, sA, s0, s1]
     refine sy 14 37 rfl rfl ?_
     try simp only [Act.put, sA, s0, s1]
     refine sy 15 38 rfl rfl ?_
     try simp only [Act.put, sA, s0, s1]
     refine sy 16 39 rfl rfl ?_
     try simp only [Act.put, sA, s0, s1]
     refine sy 17 40 rfl rfl ?_
     try simp only [Act.put, sA, s0, s1]
     refine sy 18 41 rfl rfl ?_
     try simp only [Act.put, sA, s0, s1]
     refine sy 19 42 rfl rfl ?_ (hy := by (intro w hSw; (try dsimp only at hSw); have hq := HH.out _ hSw; obtain ⟨⟨q0, q1, q2, q3, q4, q5, q6⟩, ⟨p0, p1, p2, p3, p4, p5, p6⟩⟩ := hq; go_simp; try with_reducible rfl))
     try simp only [Act.put, sA, s0, s1]
     refine sy 20 43 rfl rfl ?_
     try simp only [Act.put, sA, s0, s1]
     refine sy 21 44 rfl rfl ?_
     try simp only [Act.put, sA, s0, s1]
     refine sy 22 45 rfl rfl ?_
     try simp only [Act.put, sA, s0, s1]
     refine sy 23 46 rfl rfl ?_ (hy := by (intro w hSw; (try dsimp only at hSw); have hq := HH.out _ hSw; obtain ⟨⟨q0, q1, q2, q3, q4, q5, q6⟩, ⟨p0, p1, p2, p3, p4, p5, p6⟩⟩ := hq; go_simp; try with_reducible rfl))
     try simp only [Act.put, sA, s0, s1]
     refine wpAnyH_ready (rs := [24]) (by kernel_rfl) (by simp) ?_
     refine AllReadyH.cons rfl (fun K hK => ?_) AllReadyH.nil
     replace hK := Lib.hid hK
     go_simp
     refine (AH.out _ hHeld).mono ?_
     rintro r w8 ⟨rfl, hc⟩
     rw [ah]
     have C8 := Lib.hid (hHeld.trans hc)
     clear hc hHeld
     refine hK.out _ _ C8.out (fun hHeld => ?_)
     clear hK K
     try simp only [Act.put, sA, s0, s1]
     refine sy 25 48 rfl rfl ?_
     try simp only [Act.put, sA, s0, s1]
     refine sn 26 49 rfl rfl ?_
     try simp only [Act.put, sA, s0, s1]
     refine sn 27 50 rfl rfl ?_
     try simp only [Act.put, sA, s0, s1]
     refine sn 28 51 rfl rfl ?_
     try simp only [Act.put, sA, s0, s1]
     refine sn 29 52 rfl rfl ?_
     try simp only [Act.put, sA, s0, s1]
     refine sn 30 53 rfl rfl ?_
     try simp only [Act.put, sA, s0, s1]
     refine sn 31 54 rfl rfl ?_
     try simp only [Act.put, sA, s0, s1]
     refine sn 32 55 rfl rfl ?_
     try simp only [Act.put, sA, s0, s1]
     refine sn 33 56 rfl rfl ?_
     try simp only [Act.put, sA, s0, s1]
     refine sn 34 57 rfl rfl ?_
     try simp only [Act.put, sA, s0, s1]
     refine sn 35 58 rfl rfl ?_
     try simp only [Act.put, sA, s0, s1]
     refine sn 36 59 rfl rfl ?_
     try simp only [Act.put, sA, s0, s1]
     refine sn 37 60 rfl rfl ?_
     try simp only [Act.put, sA, s0, s1]
     refine sy 38 61 rfl rfl ?_
     try simp only [Act.put, sA, s0, s1]
     refine sy 39 62 rfl rfl ?_
     try simp only [Act.put, sA, s0, s1]
     refine sy 40 63 rfl rfl ?_
     try simp only [Act.put, sA, s0, s1]
     refine wpAnyH_done (by kernel_rfl) ?_ _
     clear hHeld HH AH WI
     have TT := Lib.hid (PC.out.trans C8.out)
     go_wp2
     go_round
     case rel => exact ⟨k + 1, by omega, by go_num, OK1, TT⟩
     case measure => simp [RowKit.intOf]; omega
    rcases wi : withinE e.q f.q with _ | _
    ·
     have NO : Hid (closedE es = false) := Lib.hid (closed_no_two EE.out EF.out ki (fun q => by have z := q.2 ah; rw [wi] at z; cases z))
     refine wp_region_held_drew (S := fun w' => Chg [] wr w') (by kernel_rfl) (Chg.refl [] wr).drew (fun hHeld => ?_)
     refine sy 0 23 rfl rfl ?_
     try simp only [Act.put, sA, s0, s1]
     refine sy 1 24 rfl rfl ?_
     try simp only [Act.put, sA, s0, s1]
     refine sy 2 25 rfl rfl ?_
     try simp only [Act.put, sA, s0, s1]
     refine sy 3 26 rfl rfl ?_
     try simp only [Act.put, sA, s0, s1]
     refine sy 4 27 rfl rfl ?_
     try simp only [Act.put, sA, s0, s1]
     refine sy 5 28 rfl rfl ?_
     try simp only [Act.put, sA, s0, s1]
     refine sy 6 29 rfl rfl ?_
     try simp only [Act.put, sA, s0, s1]
     refine sy 7 30 rfl rfl ?_
     try simp only [Act.put, sA, s0, s1]
     refine sy 8 31 rfl rfl ?_ (hy := by (intro w hSw; (try dsimp only at hSw); have hq := HH.out _ hSw; obtain ⟨⟨q0, q1, q2, q3, q4, q5, q6⟩, ⟨p0, p1, p2, p3, p4, p5, p6⟩⟩ := hq; go_simp; try with_reducible rfl))
     try simp only [Act.put, sA, s0, s1]
     refine sy 9 32 rfl rfl ?_
     try simp only [Act.put, sA, s0, s1]
     refine sy 10 33 rfl rfl ?_
     try simp only [Act.put, sA, s0, s1]
     refine sy 11 34 rfl rfl ?_
     try simp only [Act.put, sA, s0, s1]
     refine sy 12 35 rfl rfl ?_
     try simp only [Act.put, sA, s0, s1]
     refine sy 13 36 rfl rfl ?_ (hy := by (intro w hSw; (try dsimp only at hSw); have hq := HH.out _ hSw; obtain ⟨⟨q0, q1, q2, q3, q4, q5, q6⟩, ⟨p0, p1, p2, p3, p4, p5, p6⟩⟩ := hq; go_simp; try with_reducible rfl))
     try simp only [Act.put, sA, s0, s1]
     refine sy 14 37 rfl rfl ?_
     try simp only [Act.put, sA, s0, s1]
     refine sy 15 38 rfl rfl ?_
     try simp only [Act.put, sA, s0, s1]
     refine sy 16 39 rfl rfl ?_
     try simp only [Act.put, sA, s0, s1]
     refine sy 17 40 rfl rfl ?_
     try simp only [Act.put, sA, s0, s1]
     refine sy 18 41 rfl rfl ?_
     try simp only [Act.put, sA, s0, s1]
     refine sy 19 42 rfl rfl ?_ (hy := by (intro w hSw; (try dsimp only at hSw); have hq := HH.out _ hSw; obtain ⟨⟨q0, q1, q2, q3, q4, q5, q6⟩, ⟨p0, p1, p2, p3, p4, p5, p6⟩⟩ := hq; go_simp; try with_reducible rfl))
     try simp only [Act.put, sA, s0, s1]
     refine sy 20 43 rfl rfl ?_
     try simp only [Act.put, sA, s0, s1]
     refine sy 21 44 rfl rfl ?_
     try simp only [Act.put, sA, s0, s1]
     refine sy 22 45 rfl rfl ?_
     try simp only [Act.put, sA, s0, s1]
     refine sy 23 46 rfl rfl ?_ (hy := by (intro w hSw; (try dsimp only at hSw); have hq := HH.out _ hSw; obtain ⟨⟨q0, q1, q2, q3, q4, q5, q6⟩, ⟨p0, p1, p2, p3, p4, p5, p6⟩⟩ := hq; go_simp; try with_reducible rfl))
     try simp only [Act.put, sA, s0, s1]
     refine wpAnyH_ready (rs := [24]) (by kernel_rfl) (by simp) ?_
     refine AllReadyH.cons rfl (fun K hK => ?_) AllReadyH.nil
     replace hK := Lib.hid hK
     go_simp
     refine (AH.out _ hHeld).mono ?_
     rintro r w8 ⟨rfl, hc⟩
     rw [ah]
     have C8 := Lib.hid (hHeld.trans hc)
     clear hc hHeld
     refine hK.out _ _ C8.out (fun hHeld => ?_)
     clear hK K
     try simp only [Act.put, sA, s0, s1]
     refine sy 25 48 rfl rfl ?_
     try simp only [Act.put, sA, s0, s1]
     refine sy 26 49 rfl rfl ?_
     try simp only [Act.put, sA, s0, s1]
     refine sy 27 50 rfl rfl ?_
     try simp only [Act.put, sA, s0, s1]
     refine sy 28 51 rfl rfl ?_
     try simp only [Act.put, sA, s0, s1]
     refine sy 29 52 rfl rfl ?_
     try simp only [Act.put, sA, s0, s1]
     refine sy 30 53 rfl rfl ?_ (hy := by (intro w hSw; (try dsimp only at hSw); have hq := HH.out _ hSw; obtain ⟨⟨q0, q1, q2, q3, q4, q5, q6⟩, ⟨p0, p1, p2, p3, p4, p5, p6⟩⟩ := hq; go_simp; try with_reducible rfl))
     try simp only [Act.put, sA, s0, s1]
     refine sy 31 54 rfl rfl ?_
     try simp only [Act.put, sA, s0, s1]
     refine sy 32 55 rfl rfl ?_
     try simp only [Act.put, sA, s0, s1]
     refine sy 33 56 rfl rfl ?_
     try simp only [Act.put, sA, s0, s1]
     refine sy 34 57 rfl rfl ?_
     try simp only [Act.put, sA, s0, s1]
     refine sy 35 58 rfl rfl ?_ (hy := by (intro w hSw; (try dsimp only at hSw); have hq := HH.out _ hSw; obtain ⟨⟨q0, q1, q2, q3, q4, q5, q6⟩, ⟨p0, p1, p2, p3, p4, p5, p6⟩⟩ := hq; go_simp; try with_reducible rfl))
     try simp only [Act.put, sA, s0, s1]
     refine wpAnyH_ready (rs := [36]) (by kernel_rfl) (by simp) ?_
     refine AllReadyH.cons rfl (fun K hK => ?_) AllReadyH.nil
     replace hK := Lib.hid hK
     go_simp
     refine (WI.out _ hHeld).mono ?_
     rintro r w9 ⟨rfl, hc⟩
     rw [wi]
     have C9 := Lib.hid (hHeld.trans hc)
     clear hc hHeld
     refine hK.out _ _ C9.out (fun hHeld => ?_)
     clear hK K
     try simp only [Act.put, sA, s0, s1]
     refine sy 37 60 rfl rfl ?_
     try simp only [Act.put, sA, s0, s1]
     refine sy 38 61 rfl rfl ?_
     try simp only [Act.put, sA, s0, s1]
     refine sy 39 62 rfl rfl ?_
     try simp only [Act.put, sA, s0, s1]
     refine sy 40 63 rfl rfl ?_
     try simp only [Act.put, sA, s0, s1]
     refine wpAnyH_done (by kernel_rfl) ?_ _
     clear hHeld HH AH WI
     have TT := Lib.hid (PC.out.trans C9.out)
     go_wp2
     go_ret
     rw [NO.out]
     exact ⟨rfl, TT.out⟩
    have OK1 : Hid (∀ (p : Nat) (b : EvP), p < k + 1 → es[p]? = some b → p ≠ i → OneWay e b) := Lib.hid (fun p b h hb hne => by
     by_cases q : p = k
     ·
      subst q; rw [EF.out] at hb; cases hb; exact ⟨d3, fun _ => wi⟩
     ·
      exact OK.out p b (by omega) hb hne)
    refine wp_region_held_drew (S := fun w' => Chg [] wr w') (by kernel_rfl) (Chg.refl [] wr).drew (fun hHeld => ?_)
    refine sy 0 23 rfl rfl ?_
    try simp only [Act.put, sA, s0, s1]
    refine sy 1 24 rfl rfl ?_
    try simp only [Act.put, sA, s0, s1]
    refine sy 2 25 rfl rfl ?_
    try simp only [Act.put, sA, s0, s1]
    refine sy 3 26 rfl rfl ?_
    try simp only [Act.put, sA, s0, s1]
    refine sy 4 27 rfl rfl ?_
    try simp only [Act.put, sA, s0, s1]
    refine sy 5 28 rfl rfl ?_
    try simp only [Act.put, sA, s0, s1]
    refine sy 6 29 rfl rfl ?_
    try simp only [Act.put, sA, s0, s1]
    refine sy 7 30 rfl rfl ?_
    try simp only [Act.put, sA, s0, s1]
    refine sy 8 31 rfl rfl ?_ (hy := by (intro w hSw; (try dsimp only at hSw); have hq := HH.out _ hSw; obtain ⟨⟨q0, q1, q2, q3, q4, q5, q6⟩, ⟨p0, p1, p2, p3, p4, p5, p6⟩⟩ := hq; go_simp; try with_reducible rfl))
    try simp only [Act.put, sA, s0, s1]
    refine sy 9 32 rfl rfl ?_
    try simp only [Act.put, sA, s0, s1]
    refine sy 10 33 rfl rfl ?_
    try simp only [Act.put, sA, s0, s1]
    refine sy 11 34 rfl rfl ?_
    try simp only [Act.put, sA, s0, s1]
    refine sy 12 35 rfl rfl ?_
    try simp only [Act.put, sA, s0, s1]
    refine sy 13 36 rfl rfl ?_ (hy := by (intro w hSw; (try dsimp only at hSw); have hq := HH.out _ hSw; obtain ⟨⟨q0, q1, q2, q3, q4, q5, q6⟩, ⟨p0, p1, p2, p3, p4, p5, p6⟩⟩ := hq; go_simp; try with_reducible rfl))
    try simp only [Act.put, sA, s0, s1]
    refine sy 14 37 rfl rfl ?_
    try simp only [Act.put, sA, s0, s1]
    refine sy 15 38 rfl rfl ?_
    try simp only [Act.put, sA, s0, s1]
    refine sy 16 39 rfl rfl ?_
    try simp only [Act.put, sA, s0, s1]
    refine sy 17 40 rfl rfl ?_
    try simp only [Act.put, sA, s0, s1]
    refine sy 18 41 rfl rfl ?_
    try simp only [Act.put, sA, s0, s1]
    refine sy 19 42 rfl rfl ?_ (hy := by (intro w hSw; (try dsimp only at hSw); have hq := HH.out _ hSw; obtain ⟨⟨q0, q1, q2, q3, q4, q5, q6⟩, ⟨p0, p1, p2, p3, p4, p5, p6⟩⟩ := hq; go_simp; try with_reducible rfl))
    try simp only [Act.put, sA, s0, s1]
    refine sy 20 43 rfl rfl ?_
    try simp only [Act.put, sA, s0, s1]
    refine sy 21 44 rfl rfl ?_
    try simp only [Act.put, sA, s0, s1]
    refine sy 22 45 rfl rfl ?_
    try simp only [Act.put, sA, s0, s1]
    refine sy 23 46 rfl rfl ?_ (hy := by (intro w hSw; (try dsimp only at hSw); have hq := HH.out _ hSw; obtain ⟨⟨q0, q1, q2, q3, q4, q5, q6⟩, ⟨p0, p1, p2, p3, p4, p5, p6⟩⟩ := hq; go_simp; try with_reducible rfl))
    try simp only [Act.put, sA, s0, s1]
    refine wpAnyH_ready (rs := [24]) (by kernel_rfl) (by simp) ?_
    refine AllReadyH.cons rfl (fun K hK => ?_) AllReadyH.nil
    replace hK := Lib.hid hK
    go_simp
    refine (AH.out _ hHeld).mono ?_
    rintro r w8 ⟨rfl, hc⟩
    rw [ah]
    have C8 := Lib.hid (hHeld.trans hc)
    clear hc hHeld
    refine hK.out _ _ C8.out (fun hHeld => ?_)
    clear hK K
    try simp only [Act.put, sA, s0, s1]
    refine sy 25 48 rfl rfl ?_
    try simp only [Act.put, sA, s0, s1]
    refine sy 26 49 rfl rfl ?_
    try simp only [Act.put, sA, s0, s1]
    refine sy 27 50 rfl rfl ?_
    try simp only [Act.put, sA, s0, s1]
    refine sy 28 51 rfl rfl ?_
    try simp only [Act.put, sA, s0, s1]
    refine sy 29 52 rfl rfl ?_
    try simp only [Act.put, sA, s0, s1]
    refine sy 30 53 rfl rfl ?_ (hy := by (intro w hSw; (try dsimp only at hSw); have hq := HH.out _ hSw; obtain ⟨⟨q0, q1, q2, q3, q4, q5, q6⟩, ⟨p0, p1, p2, p3, p4, p5, p6⟩⟩ := hq; go_simp; try with_reducible rfl))
    try simp only [Act.put, sA, s0, s1]
    refine sy 31 54 rfl rfl ?_
    try simp only [Act.put, sA, s0, s1]
    refine sy 32 55 rfl rfl ?_
    try simp only [Act.put, sA, s0, s1]
    refine sy 33 56 rfl rfl ?_
    try simp only [Act.put, sA, s0, s1]
    refine sy 34 57 rfl rfl ?_
    try simp only [Act.put, sA, s0, s1]
    refine sy 35 58 rfl rfl ?_ (hy := by (intro w hSw; (try dsimp only at hSw); have hq := HH.out _ hSw; obtain ⟨⟨q0, q1, q2, q3, q4, q5, q6⟩, ⟨p0, p1, p2, p3, p4, p5, p6⟩⟩ := hq; go_simp; try with_reducible rfl))
    try simp only [Act.put, sA, s0, s1]
    refine wpAnyH_ready (rs := [36]) (by kernel_rfl) (by simp) ?_
    refine AllReadyH.cons rfl (fun K hK => ?_) AllReadyH.nil
    replace hK := Lib.hid hK
    go_simp
    refine (WI.out _ hHeld).mono ?_
    rintro r w9 ⟨rfl, hc⟩
    rw [wi]
    have C9 := Lib.hid (hHeld.trans hc)
    clear hc hHeld
    refine hK.out _ _ C9.out (fun hHeld => ?_)
    clear hK K
    try simp only [Act.put, sA, s0, s1]
    refine sy 37 60 rfl rfl ?_
    try simp only [Act.put, sA, s0, s1]
    refine sy 38 61 rfl rfl ?_
    try simp only [Act.put, sA, s0, s1]
    refine sy 39 62 rfl rfl ?_
    try simp only [Act.put, sA, s0, s1]
    refine sy 40 63 rfl rfl ?_
    try simp only [Act.put, sA, s0, s1]
    refine wpAnyH_done (by kernel_rfl) ?_ _
    clear hHeld HH AH WI
    have TT := Lib.hid (PC.out.trans C9.out)
    go_wp2
    go_round
    case rel => exact ⟨k + 1, by omega, by go_num, OK1, TT⟩
    case measure => simp [RowKit.intOf]; omega
   have dq : ((x.n == y.n) : Bool) = false := by simpa using d2
   clear d1 d2
   rcases ah : aheadP e f with _ | _
   ·
    skip
    have OK1 : Hid (∀ (p : Nat) (b : EvP), p < k + 1 → es[p]? = some b → p ≠ i → OneWay e b) := Lib.hid (fun p b h hb hne => by
     by_cases q : p = k
     ·
      subst q; rw [EF.out] at hb; cases hb; exact ⟨d3, fun z => by rw [ah] at z; cases z⟩
     ·
      exact OK.out p b (by omega) hb hne)
    refine wp_region_held_drew (S := fun w' => Chg [] wr w') (by kernel_rfl) (Chg.refl [] wr).drew (fun hHeld => ?_)
    refine sy 0 23 rfl rfl ?_
    try simp only [Act.put, sA, s0, s1]
    refine sy 1 24 rfl rfl ?_
    try simp only [Act.put, sA, s0, s1]
    refine sy 2 25 rfl rfl ?_
    try simp only [Act.put, sA, s0, s1]
    refine sy 3 26 rfl rfl ?_
    try simp only [Act.put, sA, s0, s1]
    refine sy 4 27 rfl rfl ?_
    try simp only [Act.put, sA, s0, s1]
    refine sy 5 28 rfl rfl ?_
    try simp only [Act.put, sA, s0, s1]
    refine sy 6 29 rfl rfl ?_
    try simp only [Act.put, sA, s0, s1]
    refine sy 7 30 rfl rfl ?_
    try simp only [Act.put, sA, s0, s1]
    refine sy 8 31 rfl rfl ?_ (hy := by (intro w hSw; (try dsimp only at hSw); have hq := HH.out _ hSw; obtain ⟨⟨q0, q1, q2, q3, q4, q5, q6⟩, ⟨p0, p1, p2, p3, p4, p5, p6⟩⟩ := hq; go_simp; try with_reducible rfl))
    try simp only [Act.put, sA, s0, s1]
    refine sy 9 32 rfl rfl ?_
    try simp only [Act.put, sA, s0, s1]
    refine sy 10 33 rfl rfl ?_
    try simp only [Act.put, sA, s0, s1]
    refine sy 11 34 rfl rfl ?_
    try simp only [Act.put, sA, s0, s1]
    refine sy 12 35 rfl rfl ?_
    try simp only [Act.put, sA, s0, s1]
    refine sy 13 36 rfl rfl ?_ (hy := by (intro w hSw; (try dsimp only at hSw); have hq := HH.out _ hSw; obtain ⟨⟨q0, q1, q2, q3, q4, q5, q6⟩, ⟨p0, p1, p2, p3, p4, p5, p6⟩⟩ := hq; go_simp; try with_reducible rfl))
    try simp only [Act.put, sA, s0, s1]
    refine sy 14 37 rfl rfl ?_
    try simp only [Act.put, sA, s0, s1]
    refine sy 15 38 rfl rfl ?_
    try simp only [Act.put, sA, s0, s1]
    refine sy 16 39 rfl rfl ?_
    try simp only [Act.put, sA, s0, s1]
    refine sy 17 40 rfl rfl ?_
    try simp only [Act.put, sA, s0, s1]
    refine sy 18 41 rfl rfl ?_
    try simp only [Act.put, sA, s0, s1]
    refine sy 19 42 rfl rfl ?_ (hy := by (intro w hSw; (try dsimp only at hSw); have hq := HH.out _ hSw; obtain ⟨⟨q0, q1, q2, q3, q4, q5, q6⟩, ⟨p0, p1, p2, p3, p4, p5, p6⟩⟩ := hq; go_simp; try with_reducible rfl))
    try simp only [Act.put, sA, s0, s1]
    refine sy 20 43 rfl rfl ?_
    try simp only [Act.put, sA, s0, s1]
    refine sy 21 44 rfl rfl ?_
    try simp only [Act.put, sA, s0, s1]
    refine sy 22 45 rfl rfl ?_
    try simp only [Act.put, sA, s0, s1]
    refine sy 23 46 rfl rfl ?_ (hy := by (intro w hSw; (try dsimp only at hSw); have hq := HH.out _ hSw; obtain ⟨⟨q0, q1, q2, q3, q4, q5, q6⟩, ⟨p0, p1, p2, p3, p4, p5, p6⟩⟩ := hq; go_simp; try with_reducible rfl))
    try simp only [Act.put, sA, s0, s1]
    refine wpAnyH_ready (rs := [24]) (by kernel_rfl) (by simp) ?_
    refine AllReadyH.cons rfl (fun K hK => ?_) AllReadyH.nil
    replace hK := Lib.hid hK
    go_simp
    refine (AH.out _ hHeld).mono ?_
    rintro r w8 ⟨rfl, hc⟩
    rw [ah]
    have C8 := Lib.hid (hHeld.trans hc)
    clear hc hHeld
    refine hK.out _ _ C8.out (fun hHeld => ?_)
    clear hK K
    try simp only [Act.put, sA, s0, s1]
    refine sy 25 48 rfl rfl ?_
    try simp only [Act.put, sA, s0, s1]
    refine sn 26 49 rfl rfl ?_
    try simp only [Act.put, sA, s0, s1]
    refine sn 27 50 rfl rfl ?_
    try simp only [Act.put, sA, s0, s1]
    refine sn 28 51 rfl rfl ?_
    try simp only [Act.put, sA, s0, s1]
    refine sn 29 52 rfl rfl ?_
    try simp only [Act.put, sA, s0, s1]
    refine sn 30 53 rfl rfl ?_
    try simp only [Act.put, sA, s0, s1]
    refine sn 31 54 rfl rfl ?_
    try simp only [Act.put, sA, s0, s1]
    refine sn 32 55 rfl rfl ?_
    try simp only [Act.put, sA, s0, s1]
    refine sn 33 56 rfl rfl ?_
    try simp only [Act.put, sA, s0, s1]
    refine sn 34 57 rfl rfl ?_
    try simp only [Act.put, sA, s0, s1]
    refine sn 35 58 rfl rfl ?_
    try simp only [Act.put, sA, s0, s1]
    refine sn 36 59 rfl rfl ?_
    try simp only [Act.put, sA, s0, s1]
    refine sn 37 60 rfl rfl ?_
    try simp only [Act.put, sA, s0, s1]
    refine sy 38 61 rfl rfl ?_
    try simp only [Act.put, sA, s0, s1]
    refine sy 39 62 rfl rfl ?_
    try simp only [Act.put, sA, s0, s1]
    refine sy 40 63 rfl rfl ?_
    try simp only [Act.put, sA, s0, s1]
    refine wpAnyH_done (by kernel_rfl) ?_ _
    clear hHeld HH AH WI
    have TT := Lib.hid (PC.out.trans C8.out)
    go_wp2
    go_round
    case rel => exact ⟨k + 1, by omega, by go_num, OK1, TT⟩
    case measure => simp [RowKit.intOf]; omega
   rcases wi : withinE e.q f.q with _ | _
   ·
    have NO : Hid (closedE es = false) := Lib.hid (closed_no_two EE.out EF.out ki (fun q => by have z := q.2 ah; rw [wi] at z; cases z))
    refine wp_region_held_drew (S := fun w' => Chg [] wr w') (by kernel_rfl) (Chg.refl [] wr).drew (fun hHeld => ?_)
    refine sy 0 23 rfl rfl ?_
    try simp only [Act.put, sA, s0, s1]
    refine sy 1 24 rfl rfl ?_
    try simp only [Act.put, sA, s0, s1]
    refine sy 2 25 rfl rfl ?_
    try simp only [Act.put, sA, s0, s1]
    refine sy 3 26 rfl rfl ?_
    try simp only [Act.put, sA, s0, s1]
    refine sy 4 27 rfl rfl ?_
    try simp only [Act.put, sA, s0, s1]
    refine sy 5 28 rfl rfl ?_
    try simp only [Act.put, sA, s0, s1]
    refine sy 6 29 rfl rfl ?_
    try simp only [Act.put, sA, s0, s1]
    refine sy 7 30 rfl rfl ?_
    try simp only [Act.put, sA, s0, s1]
    refine sy 8 31 rfl rfl ?_ (hy := by (intro w hSw; (try dsimp only at hSw); have hq := HH.out _ hSw; obtain ⟨⟨q0, q1, q2, q3, q4, q5, q6⟩, ⟨p0, p1, p2, p3, p4, p5, p6⟩⟩ := hq; go_simp; try with_reducible rfl))
    try simp only [Act.put, sA, s0, s1]
    refine sy 9 32 rfl rfl ?_
    try simp only [Act.put, sA, s0, s1]
    refine sy 10 33 rfl rfl ?_
    try simp only [Act.put, sA, s0, s1]
    refine sy 11 34 rfl rfl ?_
    try simp only [Act.put, sA, s0, s1]
    refine sy 12 35 rfl rfl ?_
    try simp only [Act.put, sA, s0, s1]
    refine sy 13 36 rfl rfl ?_ (hy := by (intro w hSw; (try dsimp only at hSw); have hq := HH.out _ hSw; obtain ⟨⟨q0, q1, q2, q3, q4, q5, q6⟩, ⟨p0, p1, p2, p3, p4, p5, p6⟩⟩ := hq; go_simp; try with_reducible rfl))
    try simp only [Act.put, sA, s0, s1]
    refine sy 14 37 rfl rfl ?_
    try simp only [Act.put, sA, s0, s1]
    refine sy 15 38 rfl rfl ?_
    try simp only [Act.put, sA, s0, s1]
    refine sy 16 39 rfl rfl ?_
    try simp only [Act.put, sA, s0, s1]
    refine sy 17 40 rfl rfl ?_
    try simp only [Act.put, sA, s0, s1]
    refine sy 18 41 rfl rfl ?_
    try simp only [Act.put, sA, s0, s1]
    refine sy 19 42 rfl rfl ?_ (hy := by (intro w hSw; (try dsimp only at hSw); have hq := HH.out _ hSw; obtain ⟨⟨q0, q1, q2, q3, q4, q5, q6⟩, ⟨p0, p1, p2, p3, p4, p5, p6⟩⟩ := hq; go_simp; try with_reducible rfl))
    try simp only [Act.put, sA, s0, s1]
    refine sy 20 43 rfl rfl ?_
    try simp only [Act.put, sA, s0, s1]
    refine sy 21 44 rfl rfl ?_
    try simp only [Act.put, sA, s0, s1]
    refine sy 22 45 rfl rfl ?_
    try simp only [Act.put, sA, s0, s1]
    refine sy 23 46 rfl rfl ?_ (hy := by (intro w hSw; (try dsimp only at hSw); have hq := HH.out _ hSw; obtain ⟨⟨q0, q1, q2, q3, q4, q5, q6⟩, ⟨p0, p1, p2, p3, p4, p5, p6⟩⟩ := hq; go_simp; try with_reducible rfl))
    try simp only [Act.put, sA, s0, s1]
    refine wpAnyH_ready (rs := [24]) (by kernel_rfl) (by simp) ?_
    refine AllReadyH.cons rfl (fun K hK => ?_) AllReadyH.nil
    replace hK := Lib.hid hK
    go_simp
    refine (AH.out _ hHeld).mono ?_
    rintro r w8 ⟨rfl, hc⟩
    rw [ah]
    have C8 := Lib.hid (hHeld.trans hc)
    clear hc hHeld
    refine hK.out _ _ C8.out (fun hHeld => ?_)
    clear hK K
    try simp only [Act.put, sA, s0, s1]
    refine sy 25 48 rfl rfl ?_
    try simp only [Act.put, sA, s0, s1]
    refine sy 26 49 rfl rfl ?_
    try simp only [Act.put, sA, s0, s1]
    refine sy 27 50 rfl rfl ?_
    try simp only [Act.put, sA, s0, s1]
    refine sy 28 51 rfl rfl ?_
    try simp only [Act.put, sA, s0, s1]
    refine sy 29 52 rfl rfl ?_
    try simp only [Act.put, sA, s0, s1]
    refine sy 30 53 rfl rfl ?_ (hy := by (intro w hSw; (try dsimp only at hSw); have hq := HH.out _ hSw; obtain ⟨⟨q0, q1, q2, q3, q4, q5, q6⟩, ⟨p0, p1, p2, p3, p4, p5, p6⟩⟩ := hq; go_simp; try with_reducible rfl))
    try simp only [Act.put, sA, s0, s1]
    refine sy 31 54 rfl rfl ?_
    try simp only [Act.put, sA, s0, s1]
    refine sy 32 55 rfl rfl ?_
    try simp only [Act.put, sA, s0, s1]
    refine sy 33 56 rfl rfl ?_
    try simp only [Act.put, sA, s0, s1]
    refine sy 34 57 rfl rfl ?_
    try simp only [Act.put, sA, s0, s1]
    refine sy 35 58 rfl rfl ?_ (hy := by (intro w hSw; (try dsimp only at hSw); have hq := HH.out _ hSw; obtain ⟨⟨q0, q1, q2, q3, q4, q5, q6⟩, ⟨p0, p1, p2, p3, p4, p5, p6⟩⟩ := hq; go_simp; try with_reducible rfl))
    try simp only [Act.put, sA, s0, s1]
    refine wpAnyH_ready (rs := [36]) (by kernel_rfl) (by simp) ?_
    refine AllReadyH.cons rfl (fun K hK => ?_) AllReadyH.nil
    replace hK := Lib.hid hK
    go_simp
    refine (WI.out _ hHeld).mono ?_
    rintro r w9 ⟨rfl, hc⟩
    rw [wi]
    have C9 := Lib.hid (hHeld.trans hc)
    clear hc hHeld
    refine hK.out _ _ C9.out (fun hHeld => ?_)
    clear hK K
    try simp only [Act.put, sA, s0, s1]
    refine sy 37 60 rfl rfl ?_
    try simp only [Act.put, sA, s0, s1]
    refine sy 38 61 rfl rfl ?_
    try simp only [Act.put, sA, s0, s1]
    refine sy 39 62 rfl rfl ?_
    try simp only [Act.put, sA, s0, s1]
    refine sy 40 63 rfl rfl ?_
    try simp only [Act.put, sA, s0, s1]
    refine wpAnyH_done (by kernel_rfl) ?_ _
    clear hHeld HH AH WI
    have TT := Lib.hid (PC.out.trans C9.out)
    go_wp2
    go_ret
    rw [NO.out]
    exact ⟨rfl, TT.out⟩
   have OK1 : Hid (∀ (p : Nat) (b : EvP), p < k + 1 → es[p]? = some b → p ≠ i → OneWay e b) := Lib.hid (fun p b h hb hne => by
    by_cases q : p = k
    ·
     subst q; rw [EF.out] at hb; cases hb; exact ⟨d3, fun _ => wi⟩
    ·
     exact OK.out p b (by omega) hb hne)
   refine wp_region_held_drew (S := fun w' => Chg [] wr w') (by kernel_rfl) (Chg.refl [] wr).drew (fun hHeld => ?_)
   refine sy 0 23 rfl rfl ?_
   try simp only [Act.put, sA, s0, s1]
   refine sy 1 24 rfl rfl ?_
   try simp only [Act.put, sA, s0, s1]
   refine sy 2 25 rfl rfl ?_
   try simp only [Act.put, sA, s0, s1]
   refine sy 3 26 rfl rfl ?_
   try simp only [Act.put, sA, s0, s1]
   refine sy 4 27 rfl rfl ?_
   try simp only [Act.put, sA, s0, s1]
   refine sy 5 28 rfl rfl ?_
   try simp only [Act.put, sA, s0, s1]
   refine sy 6 29 rfl rfl ?_
   try simp only [Act.put, sA, s0, s1]
   refine sy 7 30 rfl rfl ?_
   try simp only [Act.put, sA, s0, s1]
   refine sy 8 31 rfl rfl ?_ (hy := by (intro w hSw; (try dsimp only at hSw); have hq := HH.out _ hSw; obtain ⟨⟨q0, q1, q2, q3, q4, q5, q6⟩, ⟨p0, p1, p2, p3, p4, p5, p6⟩⟩ := hq; go_simp; try with_reducible rfl))
   try simp only [Act.put, sA, s0, s1]
   refine sy 9 32 rfl rfl ?_
   try simp only [Act.put, sA, s0, s1]
   refine sy 10 33 rfl rfl ?_
   try simp only [Act.put, sA, s0, s1]
   refine sy 11 34 rfl rfl ?_
   try simp only [Act.put, sA, s0, s1]
   refine sy 12 35 rfl rfl ?_
   try simp only [Act.put, sA, s0, s1]
   refine sy 13 36 rfl rfl ?_ (hy := by (intro w hSw; (try dsimp only at hSw); have hq := HH.out _ hSw; obtain ⟨⟨q0, q1, q2, q3, q4, q5, q6⟩, ⟨p0, p1, p2, p3, p4, p5, p6⟩⟩ := hq; go_simp; try with_reducible rfl))
   try simp only [Act.put, sA, s0, s1]
   refine sy 14 37 rfl rfl ?_
   try simp only [Act.put, sA, s0, s1]
   refine sy 15 38 rfl rfl ?_
   try simp only [Act.put, sA, s0, s1]
   refine sy 16 39 rfl rfl ?_
   try simp only [Act.put, sA, s0, s1]
   refine sy 17 40 rfl rfl ?_
   try simp only [Act.put, sA, s0, s1]
   refine sy 18 41 rfl rfl ?_
   try simp only [Act.put, sA, s0, s1]
   refine sy 19 42 rfl rfl ?_ (hy := by (intro w hSw; (try dsimp only at hSw); have hq := HH.out _ hSw; obtain ⟨⟨q0, q1, q2, q3, q4, q5, q6⟩, ⟨p0, p1, p2, p3, p4, p5, p6⟩⟩ := hq; go_simp; try with_reducible rfl))
   try simp only [Act.put, sA, s0, s1]
   refine sy 20 43 rfl rfl ?_
   try simp only [Act.put, sA, s0, s1]
   refine sy 21 44 rfl rfl ?_
   try simp only [Act.put, sA, s0, s1]
   refine sy 22 45 rfl rfl ?_
   try simp only [Act.put, sA, s0, s1]
   refine sy 23 46 rfl rfl ?_ (hy := by (intro w hSw; (try dsimp only at hSw); have hq := HH.out _ hSw; obtain ⟨⟨q0, q1, q2, q3, q4, q5, q6⟩, ⟨p0, p1, p2, p3, p4, p5, p6⟩⟩ := hq; go_simp; try with_reducible rfl))
   try simp only [Act.put, sA, s0, s1]
   refine wpAnyH_ready (rs := [24]) (by kernel_rfl) (by simp) ?_
   refine AllReadyH.cons rfl (fun K hK => ?_) AllReadyH.nil
   replace hK := Lib.hid hK
   go_simp
   refine (AH.out _ hHeld).mono ?_
   rintro r w8 ⟨rfl, hc⟩
   rw [ah]
   have C8 := Lib.hid (hHeld.trans hc)
   clear hc hHeld
   refine hK.out _ _ C8.out (fun hHeld => ?_)
   clear hK K
   try simp only [Act.put, sA, s0, s1]
   refine sy 25 48 rfl rfl ?_
   try simp only [Act.put, sA, s0, s1]
   refine sy 26 49 rfl rfl ?_
   try simp only [Act.put, sA, s0, s1]
   refine sy 27 50 rfl rfl ?_
   try simp only [Act.put, sA, s0, s1]
   refine sy 28 51 rfl rfl ?_
   try simp only [Act.put, sA, s0, s1]
   refine sy 29 52 rfl rfl ?_
   try simp only [Act.put, sA, s0, s1]
   refine sy 30 53 rfl rfl ?_ (hy := by (intro w hSw; (try dsimp only at hSw); have hq := HH.out _ hSw; obtain ⟨⟨q0, q1, q2, q3, q4, q5, q6⟩, ⟨p0, p1, p2, p3, p4, p5, p6⟩⟩ := hq; go_simp; try with_reducible rfl))
   try simp only [Act.put, sA, s0, s1]
   refine sy 31 54 rfl rfl ?_
   try simp only [Act.put, sA, s0, s1]
   refine sy 32 55 rfl rfl ?_
   try simp only [Act.put, sA, s0, s1]
   refine sy 33 56 rfl rfl ?_
   try simp only [Act.put, sA, s0, s1]
   refine sy 34 57 rfl rfl ?_
   try simp only [Act.put, sA, s0, s1]
   refine sy 35 58 rfl rfl ?_ (hy := by (intro w hSw; (try dsimp only at hSw); have hq := HH.out _ hSw; obtain ⟨⟨q0, q1, q2, q3, q4, q5, q6⟩, ⟨p0, p1, p2, p3, p4, p5, p6⟩⟩ := hq; go_simp; try with_reducible rfl))
   try simp only [Act.put, sA, s0, s1]
   refine wpAnyH_ready (rs := [36]) (by kernel_rfl) (by simp) ?_
   refine AllReadyH.cons rfl (fun K hK => ?_) AllReadyH.nil
   replace hK := Lib.hid hK
   go_simp
   refine (WI.out _ hHeld).mono ?_
   rintro r w9 ⟨rfl, hc⟩
   rw [wi]
   have C9 := Lib.hid (hHeld.trans hc)
   clear hc hHeld
   refine hK.out _ _ C9.out (fun hHeld => ?_)
   clear hK K
   try simp only [Act.put, sA, s0, s1]
   refine sy 37 60 rfl rfl ?_
   try simp only [Act.put, sA, s0, s1]
   refine sy 38 61 rfl rfl ?_
   try simp only [Act.put, sA, s0, s1]
   refine sy 39 62 rfl rfl ?_
   try simp only [Act.put, sA, s0, s1]
   refine sy 40 63 rfl rfl ?_
   try simp only [Act.put, sA, s0, s1]
   refine wpAnyH_done (by kernel_rfl) ?_ _
   clear hHeld HH AH WI
   have TT := Lib.hid (PC.out.trans C9.out)
   go_wp2
   go_round
   case rel => exact ⟨k + 1, by omega, by go_num, OK1, TT⟩
   case measure => simp [RowKit.intOf]; omega
end
section
open Go.RowKit
theorem l8awake_run (W : World) : Calls Tryz.prog 9 #[] W fun e w' => e = .returned (.bool true) ∧ Chg [] W w' :=
 Ev.closed_call (X := [(192, .compare)]) (g := 3) (n := 100000) (by kernel_rfl) (Ev.one_ext Tryz.func192 (by kernel_rfl) (by kernel_rfl) (by kernel_rfl) (by kernel_rfl) (Ev.no_ext _)) (by kernel_rfl) (by kernel_rfl) W
end
section
open Go.RowKit Go.Lib
set_option linter.unusedSimpArgs false
set_option linter.unusedVariables false


set_option maxRecDepth 100000 in
set_option maxHeartbeats 16000000 in
theorem eventpast_yes (w : World) (A : Option Addr) (n c : Nat) (xs : List EvT) (es : List EvP) (hb : RdK evTy w A n xs) (hr : EvsR w xs es) (hn : n * 96 ≤ 140737488351232) (hm : n ≤ c) (hz : ∀ (i : Nat) (x : EvT) (e : EvP), xs[i]? = some x → es[i]? = some e → EvZ x e) :
  Calls Tryz.prog 5 #[.slice A n c] w fun r w' => r = .returned (.bool true) ∧ Chg [] w w' := by

 have hl := hb.len
 subst hl
 have HL0 : Hid (xs.length ≤ 140737488351232) := Lib.hid (by omega)
 have XL : Hid (∀ x ∈ xs, x.l ≤ 140737488351232) := Lib.hid (fun x hx => by
  obtain ⟨i, hi⟩ := List.getElem?_of_mem hx
  obtain ⟨x2, e, ex, ee, rx⟩ := hr.at_ (show i < xs.length from (List.getElem?_eq_some_iff.1 hi).1)
  rw [hi] at ex
  cases ex
  have a := rx.l
  have b := (hz i x e hi ee).1
  omega)
 have HA := Lib.hid hb
 have HR := Lib.hid hr
 have C := Lib.hid (Chg.refl [] w)
 clear hb hr hn hm hz
 go_enter Tryz.func5, Tryz.ntmps5
 go_wp2_with fail
 have lv := longevs_any w A c xs 20 HA.out HL0.out (by omega) XL.out
 rw [show ((20 : Nat) : Int) = 20 from rfl] at lv
 refine lv.mono ?_
 rintro r w1 ⟨rfl, hc⟩
 clear lv
 replace C := Lib.hid (C.out.trans hc)
 clear hc
 rcases hlong : longE xs 20 with _ | _
 rotate_left
 ·
  go_wp2_with fail
  refine (l8awake_run _).mono ?_
  rintro r w4 ⟨rfl, hc⟩
  replace C := Lib.hid (C.out.trans hc)
  clear hc
  go_wp2
  go_ret
  exact ⟨rfl, C.out⟩
 have sm := smallEvs HR.out hlong
 have SM : Hid (∀ e ∈ es, EvSm e) := Lib.hid (fun e he => (sm.1 e he).1)
 have QX : Hid (∀ e ∈ es, e.b.length ≤ 140737488351232 ∧ e.q.length ≤ 100000) := Lib.hid (fun e he => ⟨by have := (sm.1 e he).2.2; omega, by have := (sm.1 e he).2.1; omega⟩)
 have QQ : Hid (∀ e ∈ es, e.q.length ≤ 140737488351232) := Lib.hid (fun e he => by have := (sm.1 e he).2.1; omega)
 have LN : Hid (xs.length ≤ 100000) := Lib.hid (by have := sm.2; omega)
 have AL : Hid ((allsE es).length ≤ 4000) := Lib.hid (by
  have a := alls_bound 100 es (fun e he => (sm.1 e he).2.1)
  have b := sm.2
  have d := HR.out.1
  omega)
 clear sm hlong
 go_wp2_with fail
 refine (copyevs_any w1 A c xs es (HA.out.chg C.out (by simp)) (HR.out.chg C.out) LN.out QX.out).mono ?_
 rintro r w2 ⟨A1, c1, ys, rfl, hyl, ho, hy, hap, hnw, hc⟩
 have OI := Lib.hid ho
 have RI := Lib.hid hy
 have FI := Lib.hid hap.fit
 have YN : Hid (ys.length ≤ 100000) := Lib.hid (by rw [hyl]; exact LN.out)
 replace C := Lib.hid (C.out.trans hc)
 clear hc hyl ho hy hap hnw
 have D := Lib.hid (Chg.refl [] w2)
 have C2 := C
 go_wp2_with fail
 refine (evpast_any w2 A1 c1 ys es OI.out.reads RI.out YN.out SM.out).mono ?_
 rintro r w3 ⟨A3, c3, rfl, ho, hnw, hc⟩
 have O3 := Lib.hid ho
 have N3 := Lib.hid hnw
 replace C := Lib.hid (C.out.trans hc)
 replace D := Lib.hid (D.out.trans hc)
 clear hc ho hnw
 go_wp2_with fail
 refine (vepast_any w3 A c xs es (HA.out.chg C.out (by simp)) (HR.out.chg C.out) LN.out SM.out AL.out).mono ?_
 rintro r w4 ⟨A4, c4, rfl, ho, hnw, hc⟩
 have O4 := Lib.hid ho
 replace C := Lib.hid (C.out.trans hc)
 replace D := Lib.hid (D.out.trans hc)
 replace O3 := Lib.hid (O3.out.chg hc (by simp))
 clear hc ho hnw
 have PL : Hid ((pastE es).2.length ≤ 140737488351232) := Lib.hid (by have := past_short AL.out; omega)
 generalize (pastE es).2 = ps at *
 generalize (pastE es).1 = pe at *
 go_wp2_with fail
 refine (samespan_any w4 A3 A4 _ _ c3 c4 ps ps O3.out.reads O4.out.reads PL.out PL.out).mono ?_
 rintro r w5 ⟨rfl, hc⟩
 rw [beq_self_eq_true]
 replace C := Lib.hid (C.out.trans hc)
 replace D := Lib.hid (D.out.trans hc)
 replace O3 := Lib.hid (O3.out.chg hc (by simp))
 replace O4 := Lib.hid (O4.out.chg hc (by simp))
 clear hc O4
 go_wp2_with fail
 refine (evclosed_any w5 A1 c1 ys es (OI.out.reads.chg D.out (by simp)) (RI.out.chg D.out) (FI.out.chg D.out) YN.out SM.out).mono ?_
 rintro r w6 ⟨rfl, hc⟩
 replace C := Lib.hid (C.out.trans hc)
 replace D := Lib.hid (D.out.trans hc)
 replace O3 := Lib.hid (O3.out.chg hc (by simp))
 clear hc
 go_wp2_with fail
 refine (veclosed_any w6 A c xs es (HA.out.chg C.out (by simp)) (HR.out.chg C.out) LN.out SM.out).mono ?_
 rintro r w7 ⟨rfl, hc⟩
 generalize closedE es = cb at *
 replace C := Lib.hid (C.out.trans hc)
 replace D := Lib.hid (D.out.trans hc)
 replace O3 := Lib.hid (O3.out.chg hc (by simp))
 clear hc
 go_wp2_with fail
 refine (overspan_own w7 A3 _ c3 ps O3.out rfl).mono ?_
 rintro r w8 ⟨rfl, h9⟩
 obtain ⟨S, hS, h9⟩ := over_only h9
 have hS2 : ∀ i ∈ S, w2.heap.size ≤ i := fun i hi => by obtain ⟨a, ha, q⟩ := hS i hi; rw [← q]; exact N3.out a ha
 have D8 := Lib.hid (D.out.trans' h9 (fun i hi => .inr (hS2 i hi)))
 have C8 : Hid (Chg [] w w8) := Lib.hid (C.out.over C2.out hS2 h9)
 clear hS hS2 h9 O3 C D
 have C := C8
 have D := D8
 clear C8 D8
 go_wp2_with fail
 refine (sameevs_any w8 A1 A c1 c ys xs es es (OI.out.reads.chg D.out (by simp)) (HA.out.chg C.out (by simp)) (RI.out.chg D.out) (HR.out.chg C.out) ⟨YN.out, LN.out⟩ ⟨QQ.out, QQ.out⟩).mono ?_
 rintro r w9 ⟨rfl, hc⟩
 rw [sameL_refl]
 replace C := Lib.hid (C.out.trans hc)
 clear hc
 go_wp2_with fail
 refine (l8awake_run _).mono ?_
 rintro r wa ⟨rfl, hc⟩
 replace C := Lib.hid (C.out.trans hc)
 clear hc
 go_wp2
 go_ret
 exact ⟨(by first | rfl | simp), C.out⟩
end
section
open Go.RowKit Go.WideShapes Go.ChangeShapes Go.Deep
set_option linter.unusedSimpArgs false
set_option linter.unusedVariables false

section
variable {H : Type} {enc : TypeId × Value → H} {w : World} {base : Nat} {spare : Nat → Bool} {held : Bool}
set_option maxRecDepth 100000 in
set_option maxHeartbeats 1000000 in
theorem open_events {n : Nat} {cs : List Value} {y : DataW H × List MemPlace} (h : DataW.trod enc Tryz.prog w base spare held n 31 cs = some y) (hz : ∀ k ∈ y.1.weights Tryz.prog 31, k ≤ reachBytes) :
  ∃ A m d zs es, cs = [.slice A m d] ∧ RdK evTy w A m zs ∧ EvsR w zs es ∧ m * 96 ≤ 140737488351232 ∧ m ≤ d ∧ ∀ (i : Nat) (x : EvT) (e : EvP), zs[i]? = some x → es[i]? = some e → EvZ x e := by
 rcases open_slice Tryz.underlying31 h with ⟨rfl, _⟩ | ⟨a, len, cap, m, k, D, Pl, rfl, _, hl, hm, hmm, rfl, hi⟩
 ·
  exact ⟨none, 0, 0, [], [], rfl, RdK.nil _ _, EvsR.nil _, by decide, by decide, by simp⟩
 ·
  have hlm : len ≤ m := by rw [hmm]; split <;> omega
  obtain ⟨hw, hwd⟩ := weights_slice Tryz.underlying31 hz
  rw [show Tryz.prog.bytesOf 29 = 96 by kernel_rfl] at hw
  simp [reachBytes] at hw
  have hC : Tryz.prog.cellsOf 29 = 7 := by kernel_rfl
  obtain ⟨l, hll, hat⟩ := list_of (Q := fun i (x : EvT × EvP) => (w.cell? (a.add (i * 7)) = some (.int .i64 x.1.n) ∧ w.cell? (a.add (i * 7 + 1)) = some (.int .i64 x.1.s) ∧ w.cell? (a.add (i * 7 + 2)) = some (.string x.1.p) ∧ w.cell? (a.add (i * 7 + 3)) = some (.int .i64 x.1.k) ∧ w.cell? (a.add (i * 7 + 4)) = some (.int .i64 x.1.m) ∧ w.cell? (a.add (i * 7 + 5)) = some (.slice x.1.A x.1.l x.1.c) ∧ w.cell? (a.add (i * 7 + 6)) = some (.slice x.1.B x.1.bl x.1.bc)) ∧ EvR w x.1 x.2 ∧ EvZ x.1 x.2) len (fun i hilt => by
   obtain ⟨cs', hc, ht⟩ := hi i (by omega)
   rw [hC] at hc
   obtain ⟨_, hcl, hat⟩ := World.cells?_some hc
   obtain ⟨x, e, rfl, hr, hz2⟩ := open_event ht (fun k hk => hwd (D i) (List.mem_map.2 ⟨i, List.mem_range.2 hilt, rfl⟩) k hk)
   have g0 := hat 0 (by simp)
   have g1 := hat 1 (by simp)
   have g2 := hat 2 (by simp)
   have g3 := hat 3 (by simp)
   have g4 := hat 4 (by simp)
   have g5 := hat 5 (by simp)
   have g6 := hat 6 (by simp)
   rw [add_add] at g0 g1 g2 g3 g4 g5 g6
   exact ⟨(x, e), ⟨g0, g1, g2, g3, g4, g5, g6⟩, hr, hz2⟩)
  refine ⟨some a, len, cap, l.map (·.1), l.map (·.2), rfl, ⟨by rw [List.length_map]; exact hll, fun j v hj => ⟨a, rfl, ?_⟩⟩, ⟨by simp, fun i x e hx he => ?_⟩, by omega, hl, fun i x e hx he => ?_⟩
  rotate_left
  ·
   rw [List.getElem?_map, Option.map_eq_some_iff] at hx he
   obtain ⟨p, hp, rfl⟩ := hx
   obtain ⟨q, hq, rfl⟩ := he
   rw [hp] at hq
   cases hq
   exact (hat i _ hp).2.1
  ·
   rw [List.getElem?_map, Option.map_eq_some_iff] at hx he
   obtain ⟨p, hp, rfl⟩ := hx
   obtain ⟨q, hq, rfl⟩ := he
   rw [hp] at hq
   cases hq
   exact (hat i _ hp).2.2
  have hj2 := (List.getElem?_eq_some_iff.1 hj).1
  rw [evTy.flat_len, List.length_map] at hj2
  have hk : evTy.k = 7 := rfl
  rw [hk] at hj2
  have hq : j / 7 < l.length := by omega
  have e := evTy.flat_at (l.map (·.1)) (j / 7) (j % 7) _ (by rw [List.getElem?_map, List.getElem?_eq_getElem hq]; rfl) (Nat.mod_lt _ (by decide))
  rw [hk, Nat.div_add_mod', hj] at e
  obtain ⟨g0, g1, g2, g3, g4, g5, g6⟩ := (hat (j / 7) _ (List.getElem?_eq_getElem hq)).1
  rcases (show j % 7 = 0 ∨ j % 7 = 1 ∨ j % 7 = 2 ∨ j % 7 = 3 ∨ j % 7 = 4 ∨ j % 7 = 5 ∨ j % 7 = 6 by omega) with h0 | h0 | h0 | h0 | h0 | h0 | h0
  ·
   rw [h0] at e
   rw [show j / 7 * 7 = j by omega] at g0
   rw [g0]
   exact e.symm
  ·
   rw [h0] at e
   rw [show j / 7 * 7 + 1 = j by omega] at g1
   rw [g1]
   exact e.symm
  ·
   rw [h0] at e
   rw [show j / 7 * 7 + 2 = j by omega] at g2
   rw [g2]
   exact e.symm
  ·
   rw [h0] at e
   rw [show j / 7 * 7 + 3 = j by omega] at g3
   rw [g3]
   exact e.symm
  ·
   rw [h0] at e
   rw [show j / 7 * 7 + 4 = j by omega] at g4
   rw [g4]
   exact e.symm
  ·
   rw [h0] at e
   rw [show j / 7 * 7 + 5 = j by omega] at g5
   rw [g5]
   exact e.symm
  ·
   rw [h0] at e
   rw [show j / 7 * 7 + 6 = j by omega] at g6
   rw [g6]
   exact e.symm
end
end
section
def TabN (_ : World) : Prop := True
theorem TabN.laid {W : World} (_h : laidMetH Tryz.prog tables W) : TabN W := trivial
end
end Go.Proofs.YtgbidlhgmeglmaaGreatDoor
