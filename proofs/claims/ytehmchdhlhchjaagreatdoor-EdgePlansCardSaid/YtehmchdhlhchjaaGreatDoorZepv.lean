/- shelf.Put. Those of a list of events that are asked for. What is asked of a store's events: their path, whether it is near, whether their dot is known. Where the shelf of a path stands in a store. store.put's func; rebuilt. store.put. A range over a function whose body may also write maps: no program here. store.runs: the runs of a store. Sets of dots, and of texts. -/
import Derived.Test.YtehmchdhlhchjaaGreatDoorZepj
import Derived.Test.YtehmchdhlhchjaaGreatDoorZepr
import Derived.Test.YtehmchdhlhchjaaGreatDoorZepu
import Derived.Deep.Cut
import Derived.BigQuiet
import Derived.Test.YtehmchdhlhchjaaGreatDoorZept
import Derived.RangeFuncCalls
import Derived.Test.YtehmchdhlhchjaaGreatDoorZepd
import Derived.Test.YtehmchdhlhchjaaGreatDoorZeps
import Derived.Test.YtehmchdhlhchjaaGreatDoorZepc
import Derived.Test.YtehmchdhlhchjaaGreatDoorZepq
import Derived.OwnWalkIn
import Derived.Maps.OwnSet
import Derived.DeepKeys4
import Derived.StringKeys
set_option linter.unusedSimpArgs false
set_option linter.unusedVariables false
set_option maxHeartbeats 32000000
namespace Go.Proofs.YtehmchdhlhchjaaGreatDoor
section
open Go.RowKit Go.Lib


theorem EsF.low {w : World} {lo lo' hi : Nat} {A : Option Addr} {c : Nat} {ys : List EvT} {es : List EvP} (h : EsF w lo hi A c ys es) (hh : lo' ≤ lo) : EsF w lo' hi A c ys es :=
 ⟨h.row, fun a ha => ⟨Nat.le_trans hh (h.rowAt a ha).1, (h.rowAt a ha).2⟩, h.all.low hh⟩
end
section
open Go.RowKit Go.Lib


set_option maxRecDepth 100000 in
theorem stthose1_any (w : World) (gq gf : Nat) (lb : Array Value) (x : EvT) (v : Bool) (eg : ∀ args w, (callFunc gf args).run Tryz.prog w = .ok (.enter gf args) w) (hq : w.heap[gq]? = some (.cells #[.func (.func gf) #[] lb] 76 (0, 0))) (HF : ∀ w', Chg [] w w' → Calls Tryz.prog gf (#[.agg #[.int .i64 x.n, .int .i64 x.s, .string x.p, .int .i64 x.k, .int .i64 x.m, .slice x.A x.l x.c, .slice x.B x.bl x.bc]] ++ lb) w' fun r w2 => r = .returned (.bool v) ∧ Chg [] w' w2) :
  Calls Tryz.prog 119 #[.agg #[.int .i64 x.n, .int .i64 x.s, .string x.p, .int .i64 x.k, .int .i64 x.m, .slice x.A x.l x.c, .slice x.B x.bl x.bc], .pointer (some ⟨gq, 0, none⟩)] w fun r w' => r = .returned (.bool (!v)) ∧ Chg [] w w' := by
 obtain ⟨w1, hw1, c1, b1⟩ := news1 w (.cells #[.int .i64 x.n, .int .i64 x.s, .string x.p, .int .i64 x.k, .int .i64 x.m, .slice x.A x.l x.c, .slice x.B x.bl x.bc] 40)
 have W1 := h_ hw1
 have C1 := h_ c1
 have CC := h_ (HF w1 c1)
 have p1 := c1.at_ hq (by simp)
 obtain ⟨z0, z1, z2, z3, z4, z5, z6⟩ := ce7 b1
 have u0 := ce1 p1
 clear hw1 c1 b1 hq p1 HF
 go_enter Tryz.func119, Tryz.ntmps119
 go_upto_region 1 with fail
 rw [← W1.out]
 generalize w.heap.size = g1 at *
 clear W1; go_wp2_with fail; clear z0 z1 z2 z3 z4 z5 z6 u0
 refine CC.out.mono ?_
 rintro r w2 ⟨rfl, hc⟩
 replace C1 := h_ (C1.out.trans hc)
 clear hc CC; go_wp2; go_ret
 exact ⟨rfl, C1.out⟩

set_option maxRecDepth 100000 in
theorem stthose_any (w : World) (A : Option Addr) (c : Nat) (xs : List EvT) (es : List EvP) (gf : Nat) (lb : Array Value) (q : EvP → Bool) (h : RdK evTy w A xs.length xs) (hx : EvsR w xs es) (hn : xs.length ≤ 100000) (hs : ∀ e ∈ es, e.b.length ≤ 140737488351232 ∧ e.q.length ≤ 100000) (eg : ∀ args w, (callFunc gf args).run Tryz.prog w = .ok (.enter gf args) w)
  (HF : ∀ (w' : World), Chg [] w w' → ∀ (i : Nat) (x : EvT) (e : EvP), xs[i]? = some x → es[i]? = some e → Calls Tryz.prog gf (#[.agg #[.int .i64 x.n, .int .i64 x.s, .string x.p, .int .i64 x.k, .int .i64 x.m, .slice x.A x.l x.c, .slice x.B x.bl x.bc]] ++ lb) w' fun r w2 => r = .returned (.bool (q e)) ∧ Chg [] w' w2) :
  Calls Tryz.prog 70 #[.slice A xs.length c, .func (.func gf) #[] lb] w fun r w' => ∃ (A' : Option Addr) (c' : Nat) (zs : List EvT), r = .returned (.slice A' zs.length c') ∧ zs.length ≤ xs.length ∧ EsF w' w.heap.size w'.heap.size A' c' zs (es.filter q) ∧ Chg [] w w' := by
 obtain ⟨w1, hw1, c1, b1⟩ := news1 w (.cells #[.func (.func gf) #[] lb] 76)
 have W1 := h_ hw1
 have C1 := h_ c1
 have HC := h_ (cloneEv_any w1 A xs.length c xs (h.chg c1 (by simp)) (by omega))
 have DEL := h_ (fun (w3 : World) (A3 : Option Addr) (c3 : Nat) (h0 : Chg [] w1 w3) (ho : OwnK evTy w3 A3 c3 xs) (hA : ∀ a, A3 = some a → w1.heap.size ≤ a.block) => evfdel_any w w1 w3 A3 c3 xs es 119 #[.pointer (some ⟨w.heap.size, 0, none⟩)] (fun e => !q e) (enters_of Tryz.func119 (by kernel_rfl) rfl) c1 h0 ho hA hx hn (fun wr hc i x e ex ee => stthose1_any wr w.heap.size gf lb x (q e) eg (hc.at_ b1 (by simp)) (fun w' hc' => HF w' (c1.trans (hc.trans hc')) i x e ex ee)))
 have HX := h_ hx
 have HN := h_ hn
 have HS := h_ hs
 have SZ := h_ c1.size
 have FQ : Hid (es.filter (fun e => !(!q e)) = es.filter q) := h_ (by simp only [Bool.not_not])
 clear hw1 c1 b1 h hx hn hs HF
 go_enter Tryz.func70, Tryz.ntmps70
 go_upto_region 1 with fail
 rw [← W1.out]
 obtain ⟨g0, hg0⟩ : ∃ g, w.heap.size = g := ⟨_, rfl⟩
 rw [hg0] at DEL ⊢
 clear W1; go_wp2_with fail
 refine HC.out.mono ?_
 rintro r w3 ⟨A3, c3, rfl, ho, hA, hc⟩
 have D := h_ (DEL.out w3 A3 c3 hc ho hA)
 clear ho hA hc HC DEL; go_wp2_with fail
 refine D.out.mono ?_
 rintro r w4 ⟨ys, rfl, hl, he, ho, hc⟩
 rw [FQ.out] at he
 have C4 := h_ (C1.out.trans hc)
 have L4 := h_ hl
 have FR := h_ (frevents_any w4 A3 c3 ys (es.filter q) ho.reads (he.chg C4.out) (by have := HN.out; omega) (fun e he => HS.out e (List.mem_filter.1 he).1))
 clear D hl he ho hc FQ; go_wp2_with fail
 refine FR.out.mono ?_
 rintro r w5 ⟨A5, c5, zs, rfl, hl, he, hc⟩
 have P := h_ (And.intro (show zs.length ≤ xs.length by have := L4.out; omega) (And.intro (he.low C4.out.size) (C4.out.trans hc)))
 clear hl he hc FR; go_wp2; go_ret
 rw [← hg0]
 exact ⟨A5, c5, zs, rfl, P.out.1, P.out.2.1, P.out.2.2⟩
end
section
open Go.RowKit Go.Lib

set_option maxRecDepth 100000 in
theorem stmissing1_any (w : World) (gp : Nat) (K : Option Addr) (kc : Nat) (ks : List Sp) (x : EvT) (e : EvP) (hp : w.heap[gp]? = some (.cells #[.slice K ks.length kc] 23 (0, 0))) (hk : RdK spanTy w K ks.length ks) (hl : ks.length ≤ 140737488351232) (hx : x.n = e.n ∧ x.s = e.s) :
  Calls Tryz.prog 71 #[.agg #[.int .i64 x.n, .int .i64 x.s, .string x.p, .int .i64 x.k, .int .i64 x.m, .slice x.A x.l x.c, .slice x.B x.bl x.bc], .pointer (some ⟨gp, 0, none⟩)] w fun r w' => r = .returned (.bool (!hasE ks e.n e.s)) ∧ Chg [] w w' := by
 obtain ⟨w1, hw1, c1, b1⟩ := news1 w (.cells #[.int .i64 x.n, .int .i64 x.s, .string x.p, .int .i64 x.k, .int .i64 x.m, .slice x.A x.l x.c, .slice x.B x.bl x.bc] 40)
 have W1 := h_ hw1
 have C1 := h_ c1
 have CC := h_ (has_any w1 K kc ks x.n x.s (hk.chg c1 (by simp)) hl)
 have HV : Hid (hasE ks x.n x.s = hasE ks e.n e.s) := h_ (by rw [hx.1, hx.2])
 have p1 := c1.at_ hp (by simp)
 obtain ⟨z0, z1⟩ := ce2 b1
 have u0 := ce1 p1
 clear hw1 c1 b1 hp p1 hx hl hk
 go_enter Tryz.func71, Tryz.ntmps71
 go_upto_region 1 with fail
 rw [← W1.out]
 generalize w.heap.size = g1 at *
 clear W1; go_wp2_with fail; clear z0 z1 u0
 refine CC.out.mono ?_
 rintro r w2 ⟨rfl, hc⟩
 rw [HV.out]
 replace C1 := h_ (C1.out.trans hc)
 clear hc CC; go_wp2; go_ret
 exact ⟨rfl, C1.out⟩
end
section
open Go.RowKit Go.Lib


def subA (A : Option Addr) (c i : Nat) : Option Addr := if c = i then A else A.map (fun x => x.add (i * 7))
theorem seg_eq {α : Type} (l : List α) (i j : Nat) : segL l i j = (l.drop i).take (j - i) := by unfold segL; rw [List.drop_take]
theorem RdK.sub {w : World} {A : Option Addr} {c : Nat} {xs : List EvT} (h : RdK evTy w A xs.length xs) (hc : xs.length ≤ c) {i j : Nat} (ij : i ≤ j) (hj : j ≤ xs.length) : RdK evTy w (subA A c i) (j - i) (segL xs i j) := by
 rw [seg_eq]
 by_cases q : i < j
 ·
  obtain ⟨g, o, eA, _⟩ := h.line (by omega)
  subst eA
  have r := h.part i (j - i) (by omega)
  unfold subA
  rw [if_neg (by omega)]
  have k7 : evTy.k = 7 := rfl
  rw [k7] at r
  by_cases z : i = 0
  ·
   subst z
   simpa [Addr.add] using r
  ·
   have z7 : ¬ i * 7 = 0 := by omega
   simpa only [Option.map_some, Addr.add, z7, if_false] using r
 ·
  rw [show j - i = 0 by omega, List.take_zero]
  exact RdK.nil _ _
theorem EvsR.seg {w : World} {xs : List EvT} {es : List EvP} (h : EvsR w xs es) (i j : Nat) : EvsR w (segL xs i j) (segL es i j) := by
 refine ⟨by unfold segL; rw [List.length_drop, List.length_drop, List.length_take, List.length_take, h.1], fun k x e hx he => ?_⟩
 by_cases q : i + k < j
 ·
  rw [seg_get _ q] at hx he
  exact h.2 _ x e hx he
 ·
  rw [seg_get_no _ q] at hx
  cases hx
end
section
open Go.RowKit

def KeepsTwo (m : Nat) (w w' : World) : Prop := w'.heap[m]? = w.heap[m]? ∧ w'.heap[m + 1]? = w.heap[m + 1]?
theorem KeepsTwo.of_chg {m : Nat} {S : List Nat} {w w' : World} (h : Chg S w w') (hS : ∀ k ∈ S, k < m) (hm : m + 2 ≤ w.heap.size) : KeepsTwo m w w' :=
 ⟨h.block m (by omega) (fun q => by have := hS m q; omega), h.block (m + 1) (by omega) (fun q => by have := hS _ q; omega)⟩
def brkPostM {α : Type} (m : Nat) (I : List α → World → Prop) (Ix : Code → List α → World → Prop) (n₁ : Nat) (T : List Nat) (xs : List α) (W : World) : Exit → Act → World → Prop
 | .normal, _, W' => KeepsTwo m W W' ∧ Kpt n₁ T W W' ∧ I xs W'
 | .ret, _, W' => KeepsTwo m W W' ∧ Ix .ret xs W'
 | .exit id, _, W' => KeepsTwo m W W' ∧ Ix (.exit id) xs W'
 | _, _, _ => False

theorem range_brkm {α : Type} {P : Program} {n : Nat} {g : Operand} {ps : Array Tmp} {assign body : Code} {Q : Exit → Act → World → Prop} {a : Act} {w : World} {gf : Nat} {lb : Array Value}
  (hg : a.eval g = .func (.func gf) #[] lb) (eg : ∀ args w, (callFunc gf args).run P w = .ok (.enter gf args) w) {encs : α → Array Value} {S Sp : List α → Prop} {Ex : List α → α → World → Prop} {n₁ : Nat} (hn₁ : n₁ ≤ w.heap.size) {Si T : List Nat} (hSi : ∀ x ∈ Si, x < w.heap.size)
  (hseq : ∀ (l : Nat) (J Jx : List α → World → Prop) (W : World), Below w.heap.size w W → (∀ pre A B, J pre A → Kpt W.heap.size Si A B → J pre B) → (∀ pre A B, Jx pre A → Kpt W.heap.size Si A B → Jx pre B) →
   (∀ pre x W1, J pre W1 → Ex pre x W1 → YieldAt Fence.wide (n - 1 - 1) P l (encs x) W1 fun e W' => (e = .returned (.bool true) ∧ J (pre ++ [x]) W' ∧ Kpt n₁ T W1 W') ∨ (e = .returned (.bool false) ∧ Jx (pre ++ [x]) W')) →
   J [] W → CallsIn Fence.wide (n - 1) P gf (#[.func (.yield l) #[] #[]] ++ lb) W fun e W' => (∃ v, e = .returned v) ∧ ((∃ xs, S xs ∧ J xs W') ∨ ∃ xs, Sp xs ∧ Jx xs W'))
  (hps : ∀ x, (encs x).size = ps.size) (I : List α → World → Prop) (Ix : Code → List α → World → Prop) (hI : ∀ pre A B, I pre A → Kpt w.heap.size Si A B → I pre B) (hIx : ∀ c pre A B, Ix c pre A → Kpt w.heap.size Si A B → Ix c pre B) (h0 : I [] w)
  (hEx : ∀ pre x W l o o', W.heap[l]? = some o → o.isCells = false → Ex pre x W → Ex pre x (W.putObj l o')) (a₁ : α → Act)
  (hassign : ∀ (l : Nat) (x : α) (W : World) (K : Act → World → Prop), K (a₁ x) W →
   assign.wpIn (Fence.wide.inRound l) (n - 1 - 1) P (Exit.then K (fun _ _ _ => False)) { tmps := (ps.zip (encs x)).foldl (fun t (p, v) => t.setIfInBounds p v) a.tmps, defers := [] } W)
  (hbody : ∀ (l : Nat) (pre : List α) (x : α) (W : World), w.heap.size + 2 ≤ W.heap.size → I pre W → Ex pre x W → body.wpIn (Fence.wide.inRound l) (n - 1 - 1) P (brkPostM w.heap.size I Ix n₁ T (pre ++ [x]) W) (a₁ x) W)
  (hdone : ∀ (D : Nat) (xs : List α) (W : World), w.heap.size ≤ D → S xs → I xs W → W.heap[D]? = some (.deferred (some [])) → Q .normal { a with defers := { target := .collected D, args := #[] } :: a.defers } W)
  (hstop : ∀ (D : Nat) (c : Code) (xs : List α) (W : World), w.heap.size ≤ D → Sp xs → Ix c xs W → W.heap[D]? = some (.deferred (some [])) → c.wpIn Fence.wide n P Q { a with defers := { target := .collected D, args := #[] } :: a.defers } W) :
  (Code.rangeFunc g ps assign body).wpIn Fence.wide n P Q a w := by
 refine wpIn_rangeFunc ?_
 intro fn hfn
 obtain ⟨rc, hrc⟩ : ∃ rc : LoopState → Option Code → Loop, rc = fun st pe => { state := st, pending := pe, fn, tmps := a.tmps, params := ps, assign, body, defers := w.heap.size } := ⟨_, rfl⟩
 obtain ⟨V, hV, hcV, hD0, hL0⟩ := news2 w (.deferred (some [])) (.loop (rc .ready none))
 have hsV : V.heap.size = w.heap.size + 2 := by rw [hV]; simp
 have bV : Below w.heap.size w V := by rw [hV]; exact ((Below.refl _ w).alloc (Nat.le_refl _) _).alloc (by simp) _
 refine ⟨w.heap.size + 1, [{ target := .collected w.heap.size, args := #[] }], V, { target := .fn (.func gf) lb, args := #[.func (.yield (w.heap.size + 1)) #[] #[]] }, V, gf,
  #[.func (.yield (w.heap.size + 1)) #[] #[]] ++ lb, V, ?_, ?_, fun _ _ => trivial, ?_, fun h => by simp [Fence.wide] at h, ?_⟩
 ·
  rw [hV, hrc]; exact run_enterLoop_outer _ _ _ _ _
 ·
  simp only [resolve, hg]
  simp [go_sem]
 ·
  simp [invoke, go_sem, eg]
 ·
  -- the record and the row of deferred calls, turned or not, lie at or behind w's end
  have turn : ∀ (W : World) (o : Obj) (o' : Obj), W.heap[w.heap.size + 1]? = some o → o.isCells = false → o.isWalk = false → ∀ m, m ≤ w.heap.size → Below m W (W.putObj (w.heap.size + 1) o') :=
   fun W o o' h hc hw m hm => belowK_b (w := w) hm W _ o o' (by omega) h hc hw
  have far : ∀ k, w.heap.size ≤ k → k ∉ Si := fun k hk h => by have := hSi k h; omega
  refine (hseq (w.heap.size + 1) (fun pre W => I pre W ∧ W.heap[w.heap.size + 1]? = some (.loop (rc .ready none)) ∧ W.heap[w.heap.size]? = some (.deferred (some [])))
   (fun pre W => ∃ c, Ix c pre W ∧ W.heap[w.heap.size + 1]? = some (.loop (rc .done (some c))) ∧ W.heap[w.heap.size]? = some (.deferred (some []))) V bV ?_ ?_ ?_
   ⟨hI _ _ _ h0 (Kpt.of_below bV (Nat.le_refl _)), hL0, hD0⟩).mono ?_
  ·
   rintro pre A B ⟨hi, hl, hk⟩ hb
   exact ⟨hI _ _ _ hi (hb.mono (by omega) (fun _ h => h)), (hb.block _ (by omega) (far _ (by omega))).trans hl, (hb.block _ (by omega) (far _ (Nat.le_refl _))).trans hk⟩
  ·
   rintro pre A B ⟨c, hi, hl, hk⟩ hb
   exact ⟨c, hIx _ _ _ _ hi (hb.mono (by omega) (fun _ h => h)), (hb.block _ (by omega) (far _ (by omega))).trans hl, (hb.block _ (by omega) (far _ (Nat.le_refl _))).trans hk⟩
  ·
   rintro pre x W ⟨hi, hl, hk⟩ hx
   have hlt := lt_of_heap hl
   have hy := run_yield (P := P) (args := encs x) hl (by rw [hrc]; exact hps x)
   rw [hrc] at hy
   refine ⟨fn, _, assign, body, hy, roundIn_of_wpIn hfn (hassign _ x W _ ⟨_, run_beginRound hl (by rw [hrc]), ?_⟩)⟩
   have hl2 : (W.putObj (w.heap.size + 1) (.loop { rc .ready none with state := .busy })).heap[w.heap.size + 1]? = some (.loop { rc .ready none with state := .busy }) := World.putObj_heap_same hlt
   have hk2 : (W.putObj (w.heap.size + 1) (.loop { rc .ready none with state := .busy })).heap[w.heap.size]? = some (.deferred (some [])) := (World.putObj_heap_other (by omega)).trans hk
   have b2 := turn W _ (.loop { rc .ready none with state := .busy }) hl rfl rfl
   refine wpIn_mono (hbody _ pre x _ (lt_of_heap hl2) (hI _ _ _ hi (Kpt.of_below (b2 _ (Nat.le_refl _)) (Nat.le_refl _))) (hEx pre x W _ _ _ hl rfl hx)) ?_
   have fin : ∀ (c : Code) (W3 : World), KeepsTwo w.heap.size (W.putObj (w.heap.size + 1) (.loop { rc .ready none with state := .busy })) W3 → Ix c (pre ++ [x]) W3 →
     ∃ v w', (Instr.endRound (w.heap.size + 1) (some c)).run P W3 = .ok v w' ∧ ((Ending.returned v = .returned (.bool true) ∧ (I (pre ++ [x]) w' ∧ w'.heap[w.heap.size + 1]? = some (.loop (rc .ready none)) ∧ w'.heap[w.heap.size]? = some (.deferred (some []))) ∧ Kpt n₁ T W w') ∨
      (Ending.returned v = .returned (.bool false) ∧ ∃ c, Ix c (pre ++ [x]) w' ∧ w'.heap[w.heap.size + 1]? = some (.loop (rc .done (some c))) ∧ w'.heap[w.heap.size]? = some (.deferred (some [])))) := by
    intro c W3 hk3 hi3
    have hl3 := hk3.2.trans hl2
    have hd3 := hk3.1.trans hk2
    have hr := run_endRound (P := P) (some c) hl3
    have b4 := turn W3 _ (.loop (rc .done (some c))) hl3 rfl rfl
    refine ⟨_, _, hr, .inr ⟨rfl, c, ?_, ?_, ?_⟩⟩
    ·
     have := hIx _ _ _ _ hi3 (Kpt.of_below (b4 _ (Nat.le_refl _)) (Nat.le_refl _))
     rw [hrc] at this ⊢
     exact this
    ·
     rw [hrc]; exact World.putObj_heap_same (lt_of_heap hl3)
    ·
     exact (World.putObj_heap_other (by omega)).trans hd3
   rintro e a3 W3 hp
   cases e with
   | normal =>
    obtain ⟨hk3, hb3, hi3⟩ := hp
    have hl3 := hk3.2.trans hl2
    have hd3 := hk3.1.trans hk2
    have hr := run_endRound (P := P) none hl3
    have b4 := turn W3 _ (.loop (rc .ready none)) hl3 rfl rfl
    refine ⟨_, _, hr, .inl ⟨rfl, ⟨?_, ?_, ?_⟩, ?_⟩⟩
    ·
     have := hI _ _ _ hi3 (Kpt.of_below (b4 _ (Nat.le_refl _)) (Nat.le_refl _))
     rw [hrc] at this ⊢
     exact this
    ·
     rw [hrc]; exact World.putObj_heap_same (lt_of_heap hl3)
    ·
     exact (World.putObj_heap_other (by omega)).trans hd3
    ·
     have := ((Kpt.of_below (T := T) (b2 _ hn₁) (Nat.le_refl _)).trans hb3).trans (Kpt.of_below (b4 _ hn₁) (Nat.le_refl _))
     rw [hrc] at this ⊢
     exact this
   | ret => exact fin .ret W3 hp.1 hp.2
   | exit id => exact fin (.exit id) W3 hp.1 hp.2
   | goto t => exact hp.elim
   | panic ch => exact hp.elim
   | outgrown => exact hp.elim
  ·
   rintro e W2 ⟨⟨v, rfl⟩, (⟨xs, hS, hi, hl, hk⟩ | ⟨xs, hS, c, hi, hl, hk⟩)⟩
   ·
    refine ⟨none, _, by have := run_endLoop (P := P) hl (by rw [hrc]; simp); rw [hrc] at this; exact this, hdone _ xs _ (Nat.le_refl _) hS ?_ ((World.putObj_heap_other (by omega)).trans hk)⟩
    exact hI _ _ _ hi (Kpt.of_below (turn W2 _ _ hl rfl rfl _ (Nat.le_refl _)) (Nat.le_refl _))
   ·
    refine ⟨some c, _, by have := run_endLoop (P := P) hl (by rw [hrc]; simp); rw [hrc] at this; exact this, hstop _ c xs _ (Nat.le_refl _) hS ?_ ((World.putObj_heap_other (by omega)).trans hk)⟩
    exact hIx _ _ _ _ hi (Kpt.of_below (turn W2 _ _ hl rfl rfl _ (Nat.le_refl _)) (Nat.le_refl _))
end
section
open Go.RowKit Go.Lib


attribute [local go_sem] Oper.semAt_some
def endRun (pre : List (Nat × Nat)) : Nat := (pre.getLast?.map (fun x => x.2)).getD 0
theorem endRun_nil : endRun [] = 0 := rfl
theorem endRun_snoc (pre : List (Nat × Nat)) (x : Nat × Nat) : endRun (pre ++ [x]) = x.2 := by unfold endRun; simp
def runA (A : Option Addr) (k : Nat) : Option Addr := A.map (fun x => x.add (k * 7))
theorem runA_some (g o k : Nat) : runA (some ⟨g, o, none⟩) k = some ⟨g, o + k * 7, none⟩ := by
 unfold runA
 by_cases z : k = 0
 ·
  subst z
  simp [Addr.add]
 ·
  have z7 : ¬ k * 7 = 0 := by omega
  simp only [Option.map_some, Addr.add, z7, if_false]
theorem runA_sub {A : Option Addr} {c k : Nat} (h : c ≠ k) : runA A k = subA A c k := by unfold runA subA; rw [if_neg h]
theorem struns_any (w : World) (A : Option Addr) (n c : Nat) : Calls Tryz.prog 64 #[.slice A n c] w fun e w' =>
  e = .returned (.func (.func 112) #[] #[.pointer (some ⟨w.heap.size, 0, none⟩)]) ∧ w' = w.alloc (.cells #[.slice A n c] 22) := by
 go_enter Tryz.func64, Tryz.ntmps64
 go_wp2; go_ret
 exact ⟨by simp, rfl⟩
set_option maxRecDepth 100000 in
theorem runs1_gives (n l n₁ bs : Nat) (T : List Nat) (A : Option Addr) (c : Nat) (xs : List EvT) (es : List EvP)
  (J Jx : List (Nat × Nat) → World → Prop) (W : World) (hb : bs < n₁) (hT : bs ∉ T) (hn₁ : n₁ ≤ W.heap.size) (hA : xs = [] ∨ ∀ a, A = some a → a.block < n₁ ∧ a.block ∉ T)
  (hJ : ∀ pre A B, W.heap.size ≤ A.heap.size → J pre A → Chg [] A B → J pre B) (hl : xs.length = es.length) (hp : ∀ (i : Nat) (x : EvT) (e : EvP), xs[i]? = some x → es[i]? = some e → x.p = strOf e.p) (hr : RdK evTy W A xs.length xs) (hc : xs.length ≤ c) (hn : xs.length ≤ 100000)
  (hs : W.heap[bs]? = some (.cells #[.slice A xs.length c] 22 (0, 0)))
  (hY : ∀ pre x W1, J pre W1 → (x.1 = endRun pre ∧ RunAt es x.1 x.2) → YieldAt Fence.wide n Tryz.prog l #[.slice (runA A x.1) (x.2 - x.1) (x.2 - x.1)] W1 fun e W' => (e = .returned (.bool true) ∧ J (pre ++ [x]) W' ∧ Kpt n₁ T W1 W') ∨ (e = .returned (.bool false) ∧ Jx (pre ++ [x]) W'))
  (h0 : J [] W) :
  CallsIn Fence.wide (n + 1) Tryz.prog 112 #[.func (.yield l) #[] #[], .pointer (some ⟨bs, 0, none⟩)] W fun e W' => (∃ v, e = .returned v) ∧ ((∃ ys, endRun ys = es.length ∧ J ys W') ∨ ∃ ys, True ∧ Jx ys W') := by
 have h1 : 1 ≤ n + 1 := by omega
 have hro : Fence.wide.round = none := rfl
 have HS := h_ hs
 have HL := h_ hl
 have HP := h_ hp
 have HR := h_ hr
 have HC := h_ hc
 have HN := h_ hn
 have HA := h_ hA
 have HB := h_ (And.intro hb (And.intro hT hn₁))
 have HJ := h_ hJ
 have HY := h_ hY
 clear hs hl hp hr hc hn hA hb hT hn₁ hJ hY
 refine callsIn_of_wp Tryz.func112 rfl trivial ?_ hro
 simp only [Tryz.ntmps112, List.size_toArray, List.length_cons, List.length_nil, Nat.reduceAdd, Nat.reduceSub, Array.replicate_succ, Array.replicate_zero, List.push_toArray, List.append_toArray, List.nil_append, List.cons_append]
 gi_wp2
 gi_loopw [3, 4] (fun v3 v4 wr => ∃ (pre : List (Nat × Nat)) (k : Nat), k = endRun pre ∧ k ≤ xs.length ∧ v3 = .int .i64 (k : Int) ∧ v4 = .int .i64 (k : Int) ∧ Hid (J pre wr) ∧ Hid (Kpt n₁ T W wr))
  (fun v3 _ _ => xs.length - (RowKit.intOf v3).toNat)
 case atStart => exact ⟨[], 0, rfl, Nat.zero_le _, rfl, rfl, h_ h0, h_ (Kpt.refl _ _ _)⟩
 case round =>
  obtain ⟨pre, k, hk, hkl, rfl, rfl, JP, KP⟩ := hrel
  have HK := h_ hk
  clear hk
  have CB : Hid (∀ w', Chg [] wr w' → w'.cell? ⟨bs, 0, none⟩ = some (.slice A xs.length c)) := h_ (fun w' hc => by
   have q := hc.at_ ((KP.out.block bs HB.out.1 HB.out.2.1).trans HS.out) (by simp)
   simpa using cell_of q 0)
  have cb := CB.out wr (Chg.refl [] wr)
  have k0 : (0 : Int) ≤ (k : Int) := by omega
  by_cases hlt : k < xs.length
  ·
   have k1 : (k : Int) < (xs.length : Int) := by omega
   have RX : Hid (∀ w', Chg [] wr w' → RdK evTy w' A xs.length xs) := h_ (fun w' hc => (HR.out.kpt KP.out (HA.out.resolve_left (by intro q; rw [q] at hlt; simp at hlt))).chg hc (by simp))
   obtain ⟨g, o, eA, _⟩ := (RX.out wr (Chg.refl [] wr)).line (by omega)
   subst eA
   obtain ⟨x, hx⟩ : ∃ x, xs[k]? = some x := ⟨_, List.getElem?_eq_getElem hlt⟩
   obtain ⟨b, eb⟩ : ∃ b, es[k]? = some b := ⟨_, List.getElem?_eq_getElem (by have := HL.out; omega)⟩
   have XB : Hid (∀ w', Chg [] wr w' → w'.cell? ⟨g, o + k * 7 + 2, none⟩ = some (.string (strOf b.p))) := h_ (fun w' hc => by
    have q := (evCells (RX.out w' hc) hx).2.2.1
    rwa [HP.out k x b hx eb] at q)
   have EB := h_ eb
   have HLT := h_ hlt
   clear hx eb
   gi_wp2
   clear cb
   generalize wr = wo at *
   clear wr
   gi_loopw [4] (fun v4 wr => ∃ (j : Nat), k ≤ j ∧ j ≤ xs.length ∧ v4 = .int .i64 (j : Int) ∧ Hid (∀ i, k ≤ i → i < j → pathE es i = pathE es k) ∧ Hid (Chg [] wo wr)) (fun v4 _ => xs.length - (RowKit.intOf v4).toNat)
   case atStart => exact ⟨k, Nat.le_refl _, hkl, rfl, h_ (fun i a b => absurd b (by omega)), h_ (Chg.refl [] _)⟩
   case round =>
    obtain ⟨j, hkj, hj, rfl, SM, CQ⟩ := hrel
    have j0 : (0 : Int) ≤ (j : Int) := by omega
    have CD : Hid (Chg [] wo wr.drew) := h_ (CQ.out.trans (Chg.refl [] wr).drew)
    have NEXT : Hid (k < j → RunAt es k j → YieldAt Fence.wide n Tryz.prog l #[.slice (runA (some ⟨g, o, none⟩) k) (j - k) (j - k)] wr.drew fun e W' => (e = .returned (.bool true) ∧ J (pre ++ [(k, j)]) W' ∧ Kpt n₁ T wr.drew W') ∨ (e = .returned (.bool false) ∧ Jx (pre ++ [(k, j)]) W')) := h_ (fun _ q => HY.out pre (k, j) wr.drew (HJ.out _ _ _ KP.out.size JP.out CD.out) ⟨HK.out, q⟩)
    by_cases hjl : j < xs.length
    ·
     have j1 : (j : Int) < (xs.length : Int) := by omega
     have j2 : decide ((j : Int) < (xs.length : Int)) = true := decide_eq_true j1
     have j3 : IntKind.i64.wrap ((j : Int) + 1) = (j : Int) + 1 := IntWalk.i64_in _ (by have := HN.out; omega)
     obtain ⟨y, hy⟩ : ∃ y, xs[j]? = some y := ⟨_, List.getElem?_eq_getElem hjl⟩
     obtain ⟨f, ef⟩ : ∃ f, es[j]? = some f := ⟨_, List.getElem?_eq_getElem (by have := HL.out; omega)⟩
     have YB : Hid (∀ w', Chg [] wo w' → w'.cell? ⟨g, o + j * 7 + 2, none⟩ = some (.string (strOf f.p))) := h_ (fun w' hc => by
      have q := (evCells (RX.out w' hc) hy).2.2.1
      rwa [HP.out j y f hy ef] at q)
     have EF := h_ ef
     clear hy ef
     gi_wp2
     refine wpIn_wide.2 ?_
     refine wp_region_held_drew (S := fun w' => Chg [] wo w') (by kernel_rfl) CD.out (fun hHeld => ?_)
     refine sy 0 10 rfl rfl ?_; try simp only [Act.put, sA, s0, s1]
     refine sy 1 11 rfl rfl ?_ (hy := by (intro w hSw; (try dsimp only at hSw); have q0 := CB.out _ hSw; go_simp; try with_reducible rfl))
     try simp only [Act.put, sA, s0, s1]
     refine sy 2 12 rfl rfl ?_; try simp only [Act.put, sA, s0, s1]
     refine sy 3 13 rfl rfl ?_; try simp only [Act.put, sA, s0, s1]
     refine sy 4 14 rfl rfl ?_; try simp only [Act.put, sA, s0, s1]
     refine sy 5 15 rfl rfl ?_ (hy := by (intro w hSw; (try dsimp only at hSw); have q0 := CB.out _ hSw; go_simp; try with_reducible rfl))
     try simp only [Act.put, sA, s0, s1]
     refine sy 6 16 rfl rfl ?_; try simp only [Act.put, sA, s0, s1]
     refine sy 7 17 rfl rfl ?_; try simp only [Act.put, sA, s0, s1]
     refine sy 8 18 rfl rfl ?_; try simp only [Act.put, sA, s0, s1]
     refine sy 9 19 rfl rfl ?_ (hy := by (intro w hSw; (try dsimp only at hSw); have q0 := YB.out _ hSw; go_simp; try with_reducible rfl))
     try simp only [Act.put, sA, s0, s1]
     refine sy 10 20 rfl rfl ?_ (hy := by (intro w hSw; (try dsimp only at hSw); have q0 := CB.out _ hSw; go_simp; try with_reducible rfl))
     try simp only [Act.put, sA, s0, s1]
     refine sy 11 21 rfl rfl ?_; try simp only [Act.put, sA, s0, s1]
     refine sy 12 22 rfl rfl ?_; try simp only [Act.put, sA, s0, s1]
     refine sy 13 23 rfl rfl ?_; try simp only [Act.put, sA, s0, s1]
     refine sy 14 24 rfl rfl ?_ (hy := by (intro w hSw; (try dsimp only at hSw); have q0 := XB.out _ hSw; go_simp; try with_reducible rfl))
     try simp only [Act.put, sA, s0, s1]
     refine sy 15 25 rfl rfl ?_; try simp only [Act.put, sA, s0, s1]
     refine sy 16 26 rfl rfl ?_; try simp only [Act.put, sA, s0, s1]
     refine wpAnyH_done (by kernel_rfl) ?_ _; clear hHeld CB XB YB
     by_cases hq : f.p = b.p
     ·
      have e6 : (f.p == b.p) = true := beq_iff_eq.2 hq
      have SM1 : Hid (∀ i, k ≤ i → i < j + 1 → pathE es i = pathE es k) := h_ (fun i a t => by
       by_cases u : i = j
       ·
        subst u
        rw [pathE_some EF.out, pathE_some EB.out, hq]
       ·
        exact SM.out i a (by omega))
      have CD1 := CD
      generalize wr.drew = w9 at *
      clear hq SM NEXT
      rw [e6]
      gi_wp2
      go_roundw
      case rel => exact ⟨j + 1, by omega, by omega, by go_num, SM1, CD1⟩
      case measure => simp [RowKit.intOf]; omega
     ·
      have e6 : (f.p == b.p) = false := beq_eq_false_iff_ne.2 hq
      have KJ : Hid (k < j) := h_ (by
       by_cases u : k = j
       ·
        subst u
        rw [EF.out] at EB
        exact absurd (by have := EB.out; cases this; rfl) hq
       ·
        omega)
      have RUN : Hid (RunAt es k j) := h_ ⟨KJ.out, by have := HL.out; omega, SM.out, fun _ e => hq (by rw [pathE_some EF.out, pathE_some EB.out] at e; exact Option.some.inj e)⟩
      rw [e6]
      clear hq SM
      have YD := NEXT.out KJ.out RUN.out
      have KJ2 := KJ.out
      have CD1 := CD
      have CB2 : wr.drew.cell? ⟨bs, 0, none⟩ = some (.slice (some ⟨g, o, none⟩) xs.length c) := by
       have q := CD.out.at_ ((KP.out.block bs HB.out.1 HB.out.2.1).trans HS.out) (by simp)
       simpa using cell_of q 0
      have SZ : Hid (n₁ ≤ wr.drew.heap.size) := h_ (by have := HB.out.2.2; have := KP.out.size; have := CD.out.size; omega)
      have KP1 : Hid (Kpt n₁ T W wr.drew) := h_ (KP.out.trans ((Kpt.of_chg CD.out (by have := HB.out.2.2; have := KP.out.size; omega)).mono (Nat.le_refl _) (by simp)))
      generalize wr.drew = w9 at *
      clear NEXT RX
      have m0 : (0 : Int) ≤ (j : Int) := by omega
      have m1 : (k : Int) ≤ (j : Int) := by omega
      have m2 : (j : Int) ≤ (c : Int) := by have := HC.out; omega
      have m3 : ¬ j = k := by omega
      have RA : runA (some ⟨g, o, none⟩) k = some ⟨g, o + k * 7, none⟩ := runA_some g o k
      rw [RA] at YD
      obtain ⟨fn, tmps, assign, body, hy, hR⟩ := YD
      gi_wp2_with fail
      refine hR.mono ?_
      rintro e W3 (⟨rfl, hJ3, hk3⟩ | ⟨rfl, hx⟩)
      ·
       gi_wp2
       go_roundw
       case rel => exact ⟨pre ++ [(k, j)], j, by rw [endRun_snoc], by omega, rfl, rfl, h_ hJ3, h_ (KP1.out.trans hk3)⟩
       case measure => simp [RowKit.intOf]; omega
      ·
       gi_wp2
       refine bodyPost_ret (results_none rfl _ _ _) rfl ?_
       exact ⟨⟨_, rfl⟩, .inr ⟨_, trivial, hx⟩⟩
    ·
     obtain rfl : j = xs.length := by omega
     have j1 : ¬ (xs.length : Int) < (xs.length : Int) := by omega
     have j2 : decide ((xs.length : Int) < (xs.length : Int)) = false := decide_eq_false j1
     have KJ := HLT
     have RUN : Hid (RunAt es k xs.length) := h_ ⟨KJ.out, by have := HL.out; omega, SM.out, fun q => absurd q (by have := HL.out; omega)⟩
     gi_wp2
     refine wpIn_wide.2 ?_
     refine wp_region_held_drew (S := fun w' => Chg [] wo w') (by kernel_rfl) CD.out (fun hHeld => ?_)
     refine sy 0 10 rfl rfl ?_; try simp only [Act.put, sA, s0, s1]
     refine sy 1 11 rfl rfl ?_ (hy := by (intro w hSw; (try dsimp only at hSw); have q0 := CB.out _ hSw; go_simp; try with_reducible rfl))
     try simp only [Act.put, sA, s0, s1]
     refine sy 2 12 rfl rfl ?_; try simp only [Act.put, sA, s0, s1]
     refine sy 3 13 rfl rfl ?_; try simp only [Act.put, sA, s0, s1]
     refine sy 4 14 rfl rfl ?_; try simp only [Act.put, sA, s0, s1]
     refine sn 5 15 rfl rfl ?_; try simp only [Act.put, sA, s0, s1]
     refine sn 6 16 rfl rfl ?_; try simp only [Act.put, sA, s0, s1]
     refine sn 7 17 rfl rfl ?_; try simp only [Act.put, sA, s0, s1]
     refine sn 8 18 rfl rfl ?_; try simp only [Act.put, sA, s0, s1]
     refine sn 9 19 rfl rfl ?_; try simp only [Act.put, sA, s0, s1]
     refine sn 10 20 rfl rfl ?_; try simp only [Act.put, sA, s0, s1]
     refine sn 11 21 rfl rfl ?_; try simp only [Act.put, sA, s0, s1]
     refine sn 12 22 rfl rfl ?_; try simp only [Act.put, sA, s0, s1]
     refine sn 13 23 rfl rfl ?_; try simp only [Act.put, sA, s0, s1]
     refine sn 14 24 rfl rfl ?_; try simp only [Act.put, sA, s0, s1]
     refine sn 15 25 rfl rfl ?_; try simp only [Act.put, sA, s0, s1]
     refine sy 16 26 rfl rfl ?_; try simp only [Act.put, sA, s0, s1]
     refine wpAnyH_done (by kernel_rfl) ?_ _; clear hHeld CB XB SM
     have YD := NEXT.out KJ.out RUN.out
     have KJ2 := KJ.out
     have CD1 := CD
     have CB2 : wr.drew.cell? ⟨bs, 0, none⟩ = some (.slice (some ⟨g, o, none⟩) xs.length c) := by
      have q := CD.out.at_ ((KP.out.block bs HB.out.1 HB.out.2.1).trans HS.out) (by simp)
      simpa using cell_of q 0
     have SZ : Hid (n₁ ≤ wr.drew.heap.size) := h_ (by have := HB.out.2.2; have := KP.out.size; have := CD.out.size; omega)
     have KP1 : Hid (Kpt n₁ T W wr.drew) := h_ (KP.out.trans ((Kpt.of_chg CD.out (by have := HB.out.2.2; have := KP.out.size; omega)).mono (Nat.le_refl _) (by simp)))
     generalize wr.drew = w9 at *
     clear NEXT RX
     have m0 : (0 : Int) ≤ (xs.length : Int) := by omega
     have m1 : (k : Int) ≤ (xs.length : Int) := by omega
     have m2 : (xs.length : Int) ≤ (c : Int) := by have := HC.out; omega
     have m3 : ¬ xs.length = k := by omega
     have RA : runA (some ⟨g, o, none⟩) k = some ⟨g, o + k * 7, none⟩ := runA_some g o k
     rw [RA] at YD
     obtain ⟨fn, tmps, assign, body, hy, hR⟩ := YD
     gi_wp2_with fail
     refine hR.mono ?_
     rintro e W3 (⟨rfl, hJ3, hk3⟩ | ⟨rfl, hx⟩)
     ·
      gi_wp2
      go_roundw
      case rel => exact ⟨pre ++ [(k, xs.length)], xs.length, by rw [endRun_snoc], by omega, rfl, rfl, h_ hJ3, h_ (KP1.out.trans hk3)⟩
      case measure => simp [RowKit.intOf]; omega
     ·
      gi_wp2
      refine bodyPost_ret (results_none rfl _ _ _) rfl ?_
      exact ⟨⟨_, rfl⟩, .inr ⟨_, trivial, hx⟩⟩
  ·
   obtain rfl : k = xs.length := by omega
   have k1 : ¬ (xs.length : Int) < (xs.length : Int) := by omega
   gi_wp2
   go_end0
   exact ⟨⟨_, rfl⟩, .inl ⟨pre, by rw [← HK.out]; exact HL.out, JP.out⟩⟩
end
section
open Go.RowKit Go.Lib Go.Maps

theorem law_dot : Keyed Tryz.prog 35 := Keyed.of_law (deep_law_laid (by kernel_rfl) (m := 3) (by omega) (of_decide_eq_true (by kernel_rfl)) (by kernel_rfl) (by rw [Tryz.underlying35]))
theorem keyDot (n s : Int) (hn : (Lit.int .i64 n).wf = true) (hs : (Lit.int .i64 s).wf = true) : keyOf Tryz.prog 35 (.agg #[.int .i64 n, .int .i64 s]) = some (.string (keyBytes [.int .i64 n, .int .i64 s])) := by
 have kt : Tryz.prog.keyType 35 = true := by kernel_rfl
 have c2 : Tryz.prog.cellsOf 35 = 2 := by kernel_rfl
 have c1 : Tryz.prog.cellsOf 3 = 1 := by kernel_rfl
 have fm : (Value.agg #[.int .i64 n, .int .i64 s]).formed Tryz.prog 35 = true := by simp [Value.formed, Tryz.underlying35, c2]
 obtain ⟨m, hm⟩ : ∃ m, Tryz.prog.types.size = m + 1 := ⟨Tryz.prog.types.size - 1, by have : 0 < Tryz.prog.types.size := of_decide_eq_true (by kernel_rfl); omega⟩
 have ki : ∀ a : Int, (Lit.int .i64 a).wf = true → Tryz.prog.keyLits (m + 1) 3 [.int .i64 a] = some [.int .i64 a] := fun a ha => by
  unfold Program.keyLits
  simp [Tryz.underlying3, ha]
 have kl : Tryz.prog.keyLits (Tryz.prog.types.size + 1) 35 [.int .i64 n, .int .i64 s] = some [.int .i64 n, .int .i64 s] := by
  rw [hm]
  unfold Program.keyLits
  simp [Tryz.underlying35, c2, c1, ki n hn, ki s hs]
 unfold keyOf
 rw [Tryz.underlying35]
 simp only [kt, fm, Bool.and_self, if_true]
 rw [show (Value.agg #[.int .i64 n, .int .i64 s]).cells.toList = [.int .i64 n, .int .i64 s] from rfl, kl]
 rfl
theorem dotLit_inj {a b : EvP} (ha : (Lit.int .i64 a.n).wf = true ∧ (Lit.int .i64 a.s).wf = true) (hb : (Lit.int .i64 b.n).wf = true ∧ (Lit.int .i64 b.s).wf = true) : dotLit a = dotLit b ↔ (a.n = b.n ∧ a.s = b.s) := by
 constructor
 ·
  intro h
  have h1 := keyDot a.n a.s ha.1 ha.2
  have h2 := keyDot b.n b.s hb.1 hb.2
  unfold dotLit at h
  rw [← h] at h2
  have := law_dot.inj h1 h2
  simpa using this
 ·
  rintro ⟨h1, h2⟩
  unfold dotLit
  rw [h1, h2]
end
end Go.Proofs.YtehmchdhlhchjaaGreatDoor
