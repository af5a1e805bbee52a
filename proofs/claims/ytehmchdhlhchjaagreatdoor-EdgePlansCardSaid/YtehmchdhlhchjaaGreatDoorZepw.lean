/- As XRangeo; range_late: of an iterator that lays boxes of its own ahead of its first yield (blocks from the start up to m), with a body that always goes on and makes memory of its own (behind m); range_own1: what the caller asks of its invariant is less. No program here. A drawn region in a round's frame, walked as outside of it. store.Check. The document's Of. Package dot: Sort: a copy, the library's sort, what is told twice left out. slices.Clone, slices.Compact over dots; dot.Sort. dot.Sort: each dot once, in order. What is told once, in order: there is one such list. The document's Sort: one by one, each put where it belongs: no memory here. -/
import Derived.Test.YtehmchdhlhchjaaGreatDoorZepq
import Derived.Test.YtehmchdhlhchjaaGreatDoorZepa
import Derived.OwnWalkIn
import Derived.RangeFuncCalls
import Derived.OrdersIn
import Derived.Test.YtehmchdhlhchjaaGreatDoorZepv
import Derived.Test.YtehmchdhlhchjaaGreatDoorZepu
import Derived.Maps.OwnIn
import Derived.Sort.CutIn
import Derived.Deep.Cut
import Derived.Test.YtehmchdhlhchjaaGreatDoorZepl
import Derived.Test.YtehmchdhlhchjaaGreatDoorZepm
import Derived.Test.YtehmchdhlhchjaaGreatDoorZepb
import Derived.Deep.RegionHeld3
import Derived.Test.YtehmchdhlhchjaaGreatDoorZepj
import Derived.Test.YtehmchdhlhchjaaGreatDoorShelf5
set_option linter.unusedSimpArgs false
set_option linter.unusedVariables false
namespace Go.Proofs.YtehmchdhlhchjaaGreatDoor
section
open Go.RowKit

def noDefer (ops : Array Oper) : Bool := ops.toList.all fun o => match o.op with | .defer _ => false | _ => true
theorem noDefer_at {ops : Array Oper} (h : noDefer ops = true) {i : Nat} {o : Oper} (hi : ops[i]? = some o) : ∀ c, o.op ≠ .defer c := by
 intro c hc
 have hm : o ∈ ops.toList := by
  rw [← Array.getElem?_toList] at hi
  exact List.mem_of_getElem? hi
 have := List.all_eq_true.1 h o hm
 rw [hc] at this
 cases this
section
variable {P : Program} {l n : Nat} {ops : Array Oper} {Q : Exit → Act → World → Prop} {md : Region.Mode} {S : World → Prop}
theorem wp_toRound {o : Oper} {a : Act} {w : World} {K : Act → World → Prop} (hd : ∀ c, o.op ≠ .defer c) (h : o.wp P a w K Q) : o.wpIn (Fence.wide.inRound l) n P a w K Q := by
 refine ⟨fun _ _ => trivial, ?_⟩
 rw [Oper.semAt_plain _ _ _ hd]
 unfold Oper.wp at h
 generalize (execOp a.eval o).run P w = r at *
 cases r with
 | ok x w' =>
  cases x <;> simp only [Oper.upon, Oper.uponIn] at h ⊢
  case value u => exact h
  case skip => exact h
  case defer d => exact h
  case enter f args => exact ⟨fun hd => Bool.noConfusion hd, CallsIn.inRound l (callsIn_wide.2 h)⟩
  case row row args => exact ⟨fun hd => Bool.noConfusion hd, fun c cs _ => let ⟨v, w', r, s⟩ := h c cs; ⟨v, w', r, stepsIn_wide.2 s⟩⟩
 | halt x w' =>
  cases x <;> simp only [Oper.upon, Oper.uponIn] at h ⊢
  case panic u => exact h
theorem wpOp_toRound {i : Nat} {a : Act} {w : World} {K K' : Act → World → Prop} (hd : noDefer ops = true) (hL : ¬ LetsOut Q) (hK : ∀ a w, K a w → K' a w) (h : wpOp P ops Q i K a w) : wpOpIn (Fence.wide.inRound l) n P ops Q i K' a w := by
 unfold wpOp at h
 unfold wpOpIn
 cases ho : ops[i]? with
 | none => rw [ho] at h; exact hK _ _ h
 | some o =>
  rw [ho] at h
  by_cases hw : Region.wanted o (yielded ops a.tmps) = true
  ·
   simp only [hw, if_true] at h ⊢
   exact Oper.wpIn_mono hK (wp_toRound (noDefer_at hd ho) (h.resolve_right fun h => hL h.2))
  ·
   simp only [hw] at h ⊢
   exact ⟨fun _ _ => trivial, hK _ _ h⟩
theorem wpAny_toRound (hd : noDefer ops = true) (hL : ¬ LetsOut Q) : ∀ (fuel : Nat) (listed : Array Bool) (a : Act) (w : World), wpAny P md ops Q fuel listed a w → wpAnyIn (Fence.wide.inRound l) n P md ops Q fuel listed a w
 | 0, _, _, _, h => h
 | fuel + 1, _, _, _, h => ⟨h.1, fun i hi => wpOp_toRound hd hL (fun a w h => wpAny_toRound hd hL fuel _ a w h) (h.2 i hi)⟩
theorem wpIn_round_held {id : Nat} {a : Act} {w : World} (hm : P.follows .mixedOrders = true) (hd : noDefer ops = true) (hL : ¬ LetsOut Q) (hS : S w.drew)
  (h : S w.drew → wpAnyH P .any ops Q S ops.size (Array.replicate ops.size false) a w.drew) : (Code.region id ops true).wpIn (Fence.wide.inRound l) n P Q a w :=
 wpIn_region_any hm (wpAny_toRound hd hL _ _ _ _ (wpAny_of_held _ _ _ _ (h hS)))
end
end
section
open Go.RowKit Go.Lib


attribute [local go_sem] Oper.semAt_some
theorem RdK.run {w : World} {A : Option Addr} {xs : List EvT} (h : RdK evTy w A xs.length xs) {k m : Nat} (km : k < m) (hm : m ≤ xs.length) : RdK evTy w (runA A k) (segL xs k m).length (segL xs k m) := by
 rw [runA_sub (c := xs.length) (by omega), seg_len xs hm]
 exact h.sub (Nat.le_refl _) (Nat.le_of_lt km) hm
theorem ownsMap_chg {H : Type} {w w' : World} {S : List Nat} {P : Program} {k : TypeId} {R : Value → Option (DataW H × List MemPlace)} {b n : Nat} {D : DataW H} (h : w.ownsMap P k R b n D) (hc : Chg S w w') (hb : b ∉ S) : w'.ownsMap P k R b n D := by
 obtain ⟨es, clock, q, r⟩ := h
 exact ⟨es, clock, hc.at_ q hb, r⟩
theorem ownsMap_kpt {H : Type} {w w' : World} {S : List Nat} {P : Program} {k : TypeId} {R : Value → Option (DataW H × List MemPlace)} {b n m : Nat} {D : DataW H} (h : w.ownsMap P k R b n D) (hc : Kpt m S w w') (hm : b < m) (hb : b ∉ S) : w'.ownsMap P k R b n D := by
 obtain ⟨es, clock, q, r⟩ := h
 exact ⟨es, clock, (hc.block b hm hb).trans q, r⟩
def aheadV (A : Option Addr) (pre : List (Nat × Nat)) : Value := match pre.getLast? with
 | none => .slice none 0 0
 | some x => .slice (runA A x.1) (x.2 - x.1) (x.2 - x.1)
theorem aheadV_snoc (A : Option Addr) (pre : List (Nat × Nat)) (x : Nat × Nat) : aheadV A (pre ++ [x]) = .slice (runA A x.1) (x.2 - x.1) (x.2 - x.1) := by unfold aheadV; simp
theorem dotFine {e : EvP} (h : chkEv e = 0) : (Lit.int .i64 e.n).wf = true ∧ (Lit.int .i64 e.s).wf = true := by
 have q : EvOk e := by
  unfold chkEv at h
  split at h
  ·
   assumption
  ·
   cases h
 have f : chkD e.n e.s = 0 := q.1
 unfold chkD at f
 split at f
 ·
  rename_i d
  unfold FineD at d
  exact ⟨WalkArith.wf_i64 (by omega), WalkArith.wf_i64 (by omega)⟩
 ·
  cases f
theorem dotSetE_ok {es : List EvP} (h : StOk0 es) : Go.Maps.size (dotSetE es) ≤ es.length ∧ (¬ Go.Maps.size (dotSetE es) < es.length ↔ es.Pairwise dotNe) :=
 dotSetE_len es (fun a ha b hb => dotLit_inj (dotFine ((h.2 a ha).1 a (mem_atS.2 ⟨ha, rfl⟩))) (dotFine ((h.2 b hb).1 b (mem_atS.2 ⟨hb, rfl⟩))))
theorem stcheck_result (tmps : Array Value) (w : World) (g : Nat) (v : Value) (hp : tmps[2]?.getD undef = .pointer (some ⟨g, 0, none⟩)) (hc : w.cell? ⟨g, 0, none⟩ = some v) : (results Tryz.f31 tmps).run Tryz.prog w = .ok v w := by
 have h : Tryz.f31.results = #[.cell 2 50] := rfl
 simp [results, h, hp, asAddr, go_sem, loadVar, Tryz.underlying50, hc]

set_option maxRecDepth 100000 in
set_option maxHeartbeats 16000000 in
theorem stcheck_any (w : World) (A : Option Addr) (c : Nat) (xs : List EvT) (es : List EvP) (h : RdK evTy w A xs.length xs) (hc : xs.length ≤ c) (ho : xs = [] ∨ ∀ a, A = some a → a.block < w.heap.size) (hx : EvsR w xs es) (hn : xs.length ≤ 100000) (hs : ∀ e ∈ es, EvSm e) :
  Calls Tryz.prog 31 #[.slice A xs.length c] w fun r w' => r = .returned (.int .i64 (stE es)) ∧ Chg [] w w' := by

 refine (callsIn_wide (n := 6)).1 ?_
 refine callsIn_of_wp_marks Tryz.func31 rfl trivial ?_ rfl
 simp only [Tryz.ntmps31, List.size_toArray, List.length_cons, List.length_nil, Nat.reduceAdd, Nat.reduceSub, Array.replicate_succ, Array.replicate_zero, List.push_toArray, List.append_toArray, List.nil_append, List.cons_append]
 have hmm := @run_makeMap Tryz.prog
 obtain ⟨w1, hw1, c1, b0, b1, b2⟩ := news3 w (.cells #[.int .i64 0] 50) (.cells #[.slice none 0 0] 22) (.map #[] 0)
 obtain ⟨w2, hw2, c2, b3⟩ := news1 w1 (.cells #[.map (some (w.heap.size + 1 + 1))] 98)
 obtain ⟨w3, hw3, c3, b4⟩ := news1 w2 (.cells #[.slice A xs.length c] 22)
 have OWN0 : w1.ownsMap Tryz.prog 35 (unitElem (H := Unit)) (w.heap.size + 1 + 1) 0 (dotSetE []) := ⟨#[], 0, b2, ⟨by simp, Go.MapKept.stamped_empty 0, by simp⟩, Nat.le_refl _, rfl⟩
 have sz1 : w1.heap.size = w.heap.size + 3 := by rw [hw1]; simp
 have sz2 : w2.heap.size = w.heap.size + 4 := by rw [hw2]; simp [sz1]
 have sz3 : w3.heap.size = w.heap.size + 5 := by rw [hw3]; simp [sz2]
 have W1 := h_ hw1
 have W2 := h_ hw2
 have W3 := h_ hw3
 have Q0 := h_ (c3.at_ (c2.at_ b0 (by simp)) (by simp))
 have Q1 := h_ (c3.at_ (c2.at_ b1 (by simp)) (by simp))
 have Q3 := h_ (c3.at_ b3 (by simp))
 have Q4 := h_ b4
 have QM := h_ (ownsMap_chg OWN0 (c2.trans c3) (by simp))
 have C3 := h_ (c1.trans (c2.trans c3))
 have SZ := h_ (And.intro sz1 (And.intro sz2 sz3))
 rw [sz1] at Q3
 rw [sz2] at Q4
 clear hw1 hw2 hw3 c1 c2 c3 b0 b1 b2 b3 b4 OWN0 sz1 sz2 sz3
 gi_wp2_with (refine ⟨trivial, ?_⟩; gi_at_call 64; refine (callsIn_wide.2 (struns_any _ A xs.length c)).mono ?_; rintro e w9 ⟨rfl, rfl⟩)
 rw [← W1.out, ← W2.out, ← W3.out]
 obtain ⟨r0, h0⟩ : ∃ r, w.heap.size = r := ⟨_, rfl⟩
 obtain ⟨r1, h1⟩ : ∃ r, r0 + 1 = r := ⟨_, rfl⟩
 obtain ⟨r2, h2⟩ : ∃ r, r1 + 1 = r := ⟨_, rfl⟩
 obtain ⟨r3, h3⟩ : ∃ r, r2 + 1 = r := ⟨_, rfl⟩
 obtain ⟨r4, h4⟩ : ∃ r, r3 + 1 = r := ⟨_, rfl⟩
 rw [show w.heap.size + 3 = w.heap.size + 1 + 1 + 1 from rfl] at Q3
 rw [show w.heap.size + 4 = w.heap.size + 1 + 1 + 1 + 1 from rfl] at Q4
 rw [h0] at Q0 Q1 QM Q3 Q4 ⊢
 rw [h1] at Q1 QM Q3 Q4 ⊢
 rw [h2] at QM Q3 Q4 ⊢
 rw [h3] at Q3 Q4 ⊢
 rw [h4] at Q4 ⊢
 have RR : Hid (w.heap.size = r0 ∧ r1 = r0 + 1 ∧ r2 = r0 + 2 ∧ r3 = r0 + 3 ∧ r4 = r0 + 4 ∧ w3.heap.size = r0 + 5) := h_ (by have := SZ.out; omega)
 have HA := h_ h
 have HC := h_ hc
 have HO := h_ ho
 have HX := h_ hx
 have HN := h_ hn
 have HS := h_ hs
 clear W1 W2 W3 SZ h0 h1 h2 h3 h4 h hc ho hx hn hs hmm
 have XP : Hid (∀ (i : Nat) (x : EvT) (e : EvP), xs[i]? = some x → es[i]? = some e → x.p = strOf e.p) := h_ (fun i x e a b => (HX.out.2 i x e a b).p)
 have BLK : Hid (xs = [] ∨ ∀ a, A = some a → a.block < w3.heap.size ∧ a.block ∉ [r0, r1, r2]) := h_ (HO.out.imp id (fun q a ha => by have := q a ha; have := RR.out; exact ⟨by omega, by simp; omega⟩))
 refine range_brkm (gf := 112) (lb := #[.pointer (some ⟨r4, 0, none⟩)]) rfl (enters_of Tryz.func112 (by kernel_rfl) rfl) (encs := fun x : Nat × Nat => #[.slice (runA A x.1) (x.2 - x.1) (x.2 - x.1)]) (n₁ := w3.heap.size) (Nat.le_refl _)
  (S := fun ys => endRun ys = es.length) (Sp := fun _ => True) (Ex := fun pre x _ => x.1 = endRun pre ∧ RunAt es x.1 x.2) (Si := []) (T := [r0, r1, r2]) ?si ?seq (fun _ => rfl)
  (fun pre W => (W.heap[r0]? = some (.cells #[.int .i64 0] 50 (0, 0)) ∧ W.heap[r1]? = some (.cells #[aheadV A pre] 22 (0, 0)) ∧ W.heap[r3]? = some (.cells #[.map (some r2)] 98 (0, 0))) ∧ W.ownsMap Tryz.prog 35 (unitElem (H := Unit)) r2 (endRun pre) (dotSetE (es.take (endRun pre))) ∧ (StOk0 (es.take (endRun pre)) ∧ ∀ x ∈ pre.getLast?, RunAt es x.1 x.2) ∧ Chg [] w W ∧ w3.heap.size ≤ W.heap.size)
  (fun c pre W => c = .ret ∧ W.heap[r0]? = some (.cells #[.int .i64 2] 50 (0, 0)) ∧ ¬ StOk es ∧ Chg [] w W)
  ?keep ?keepx ?start ?elem
  (fun x => { tmps := #[.slice A xs.length c, undef, .pointer (some ⟨r0, 0, none⟩), .pointer (some ⟨r1, 0, none⟩), .pointer (some ⟨r3, 0, none⟩), .slice (runA A x.1) (x.2 - x.1) (x.2 - x.1), undef, undef, .map (some r2), .slice A xs.length c, .func (.func 112) #[] #[.pointer (some ⟨r4, 0, none⟩)], .slice (runA A x.1) (x.2 - x.1) (x.2 - x.1), undef, undef, undef, undef, undef, undef, undef, undef, undef, undef, undef, undef, undef, undef, undef, undef, undef, undef, undef, undef, undef, undef, undef, undef, undef, undef, undef, undef, undef, undef, undef, undef, undef, undef, undef, undef, undef], defers := [] }) ?assign ?body ?done ?stop
 case si => simp
 case start => exact ⟨⟨Q0.out, Q1.out, Q3.out⟩, QM.out, ⟨st0_nil, by simp⟩, C3.out, Nat.le_refl _⟩
 case seq =>
  intro l' J Jx W hW hJ hJx hY h0
  have hs2 := hW.size
  refine runs1_gives 4 l' w3.heap.size r4 [r0, r1, r2] A c xs es J Jx W (by have := RR.out; omega) (by have := RR.out; simp; omega) (by omega) BLK.out (fun pre A B h1 h2 hc => hJ pre A B h2 (Kpt.of_chg hc h1)) HX.out.1 XP.out (HA.out.chg (C3.out.trans (Chg.ofBelow hW (Nat.le_refl _) [])) (by simp)) HC.out HN.out ((hW.block _ (by have := RR.out; omega)).trans Q4.out) hY h0
 case keep =>
  rintro pre A' B' ⟨⟨e0, e1, e3⟩, ow, ok, hC, hz⟩ hb
  have rr := RR.out
  exact ⟨⟨(hb.block _ (by omega) (by simp)).trans e0, (hb.block _ (by omega) (by simp)).trans e1, (hb.block _ (by omega) (by simp)).trans e3⟩, ownsMap_kpt ow hb (by omega) (by simp), ok, ((Kpt.of_chg hC (Nat.le_refl _)).trans (hb.mono (by omega) (by simp))).chg, Nat.le_trans hz hb.size⟩
 case keepx =>
  rintro c pre A' B' ⟨hc, e0, no, hC⟩ hb
  have rr := RR.out
  exact ⟨hc, (hb.block _ (by omega) (by simp)).trans e0, no, ((Kpt.of_chg hC (Nat.le_refl _)).trans (hb.mono (by omega) (by simp))).chg⟩
 case elem =>
  rintro pre x W l o o' hl ho hx
  exact hx
 case assign =>
  intro l x W K hK
  gi_wp2
  exact hK
 case body =>
  rintro l' pre ⟨k, m⟩ W hsz ⟨⟨e0, e1, e3⟩, ow, ⟨ok0, hlast⟩, hC, hz⟩ ⟨hk, hrun⟩
  have rr := RR.out
  dsimp only at hk hrun ⊢
  rw [← hk] at ow ok0
  have km := hrun.lt
  have mn : m ≤ xs.length := by have := hrun.le; have := HX.out.1; omega
  have RA := h_ (HA.out.chg hC (by simp))
  obtain ⟨g, o, eA, _⟩ := RA.out.line (by omega)
  subst eA
  obtain ⟨b, hb⟩ : ∃ b, es[k]? = some b := ⟨_, List.getElem?_eq_getElem (by have := HX.out.1; omega)⟩
  obtain ⟨x0, hx0⟩ : ∃ x, xs[k]? = some x := ⟨_, List.getElem?_eq_getElem (by omega)⟩
  have SB : Hid (x0.p = strOf b.p) := h_ (XP.out k x0 b hx0 hb)
  have LEN : Hid ((segL xs k m).length = m - k) := h_ (seg_len xs mn)
  have SHC : Hid (∀ w', Chg [] W w' → Calls Tryz.prog 65 #[.slice (some ⟨g, o + k * 7, none⟩) (m - k) (m - k)] w' fun r w2 => r = .returned (.int .i64 (shE (segL es k m))) ∧ Chg [] w' w2) := h_ (fun w' hc => by
   have q := shcheck_any w' (runA (some ⟨g, o, none⟩) k) (m - k) (segL xs k m) (segL es k m) ((RA.out.chg hc (by simp)).run km mn) ((HX.out.chg (hC.trans hc)).seg k m) (by rw [LEN.out]; have := HN.out; omega) (fun e he => HS.out e (by unfold segL at he; exact List.mem_of_mem_take (List.mem_of_mem_drop he)))
   rwa [runA_some, LEN.out] at q)
  have ZK : Hid (∀ w', Chg [] W w' → w'.cell? ⟨g, o + k * 7 + 2, none⟩ = some (.string (strOf b.p))) := h_ (fun w' hc => by
   have q := (evCells (RA.out.chg hc (by simp)) hx0).2.2.1
   rwa [SB.out] at q)
  have PTH : Hid (∀ e ∈ es, e.p.length ≤ 10000000) := h_ (fun e he => (HS.out e he).1)
  have EB := h_ hb
  have HRUN := h_ hrun
  have OW := h_ ow
  have OK0 := h_ ok0
  have HK := h_ hk
  have CW := h_ hC
  have E0 := h_ e0
  have E1 := h_ e1
  have E3 := h_ e3
  have HZ := h_ hz
  have HSZ := h_ hsz
  have KM := h_ (And.intro km mn)
  have LAST := h_ hlast
  have c1H : Hid (∀ w', Chg [] W w' → w'.cell? ⟨r1, 0, none⟩ = some (aheadV (some ⟨g, o, none⟩) pre)) := h_ (fun w' hc => by
   have q := cell_of (hc.at_ E1.out (by simp)) 0
   simpa using q)
  have mk0 : 0 < m - k := by omega
  simp only [runA_some]
  clear hb hx0 hrun ow ok0 hk hC e0 e1 e3 hz hsz km mn hlast rr
  rcases shE_two (segL es k m) with ev | ev
  rotate_left
  ·
   skip
   have EV := h_ ev
   have NO : Hid (¬ StOk es) := h_ (run_bad1 HRUN.out EB.out (fun q => by rw [shE_zero.2 q] at ev; cases ev))
   clear ev
   gi_wp2
   refine wpIn_round_held (S := fun w' => Chg [] W w') (by kernel_rfl) (by kernel_rfl) (by rintro ⟨a9, w9, h9⟩; exact h9) (Chg.refl [] W).drew (fun hHeld => ?_)
   refine sy 0 12 rfl rfl ?_; try simp only [Act.put, sA, s0, s1]
   refine on1 1 rfl (fun K hK => ?_)
   go_simp
   refine (SHC.out _ hHeld).mono ?_
   rintro r w5 ⟨rfl, hc⟩
   rw [EV.out]
   have C5 := h_ (hHeld.trans hc)
   clear hc hHeld
   refine hK.out _ _ C5.out (fun hHeld => ?_)
   clear hK K; try simp only [Act.put, sA, s0, s1]
   refine sy 2 14 rfl rfl ?_; try simp only [Act.put, sA, s0, s1]
   refine sy 3 15 rfl rfl ?_; try simp only [Act.put, sA, s0, s1]
   refine sn 4 16 rfl rfl ?_; try simp only [Act.put, sA, s0, s1]
   refine sn 5 17 rfl rfl ?_; try simp only [Act.put, sA, s0, s1]
   refine sn 6 18 rfl rfl ?_; try simp only [Act.put, sA, s0, s1]
   refine sn 7 19 rfl rfl ?_; try simp only [Act.put, sA, s0, s1]
   refine sn 8 20 rfl rfl ?_; try simp only [Act.put, sA, s0, s1]
   refine sn 9 21 rfl rfl ?_; try simp only [Act.put, sA, s0, s1]
   refine sn 10 22 rfl rfl ?_; try simp only [Act.put, sA, s0, s1]
   refine sn 11 23 rfl rfl ?_; try simp only [Act.put, sA, s0, s1]
   refine sn 12 24 rfl rfl ?_; try simp only [Act.put, sA, s0, s1]
   refine sn 13 25 rfl rfl ?_; try simp only [Act.put, sA, s0, s1]
   refine sn 14 26 rfl rfl ?_; try simp only [Act.put, sA, s0, s1]
   refine sn 15 27 rfl rfl ?_; try simp only [Act.put, sA, s0, s1]
   refine sn 16 28 rfl rfl ?_; try simp only [Act.put, sA, s0, s1]
   refine sn 17 29 rfl rfl ?_; try simp only [Act.put, sA, s0, s1]
   refine sn 18 30 rfl rfl ?_; try simp only [Act.put, sA, s0, s1]
   refine sy 19 31 rfl rfl ?_; try simp only [Act.put, sA, s0, s1]
   refine wpAnyH_done (by kernel_rfl) ?_ _; clear hHeld SHC ZK
   have q5 := (C5.out.at_ E0.out (by simp))
   have f5 := free_of q5 0
   have z5 := ce1 q5
   have Q5 := h_ q5
   clear q5
   gi_wp2
   refine ⟨?_, rfl, by simpa using heap_setCell_same _ r0 0 _ _ (.int .i64 2) Q5.out, NO.out, CW.out.trans' (C5.out.mono (S' := [r0]) (by simp)) (fun z hz => .inr (by have := RR.out; simp at hz; omega)) |>.setCell (p := ⟨r0, 0, none⟩) (.inr (by have := RR.out; show w.heap.size ≤ r0; omega)) _⟩
   exact KeepsTwo.of_chg ((C5.out.mono (S' := [r0]) (by simp)).setCell (p := ⟨r0, 0, none⟩) (.inl (by simp)) _) (fun z hz => by have := RR.out; simp at hz; omega) HSZ.out
  have EV := h_ ev
  have SHK : Hid (ShOk (segL es k m)) := h_ (shE_zero.1 ev)
  clear ev
  rcases hp : pre.getLast? with _ | ⟨j, k2⟩
  ·
   skip
   have K0 : Hid (k = 0) := h_ (by rw [HK.out]; unfold endRun; rw [hp]; rfl)
   have AV : Hid (aheadV (some ⟨g, o, none⟩) pre = .slice none 0 0) := h_ (by unfold aheadV; rw [hp])
   rw [AV.out] at c1H E1
   have NX : Hid (StOk0 (es.take m)) := h_ (run_step (j := 0) (a := b) OK0.out HRUN.out EB.out SHK.out (.inl K0.out))
   clear hp
   gi_wp2
   refine wpIn_round_held (S := fun w' => Chg [] W w') (by kernel_rfl) (by kernel_rfl) (by rintro ⟨a9, w9, h9⟩; exact h9) (Chg.refl [] W).drew (fun hHeld => ?_)
   refine sy 0 12 rfl rfl ?_; try simp only [Act.put, sA, s0, s1]
   refine on1 1 rfl (fun K hK => ?_)
   go_simp
   refine (SHC.out _ hHeld).mono ?_
   rintro r w5 ⟨rfl, hc⟩
   rw [EV.out]
   have C5 := h_ (hHeld.trans hc)
   clear hc hHeld
   refine hK.out _ _ C5.out (fun hHeld => ?_)
   clear hK K; try simp only [Act.put, sA, s0, s1]
   refine sy 2 14 rfl rfl ?_; try simp only [Act.put, sA, s0, s1]
   refine sy 3 15 rfl rfl ?_; try simp only [Act.put, sA, s0, s1]
   refine sy 4 16 rfl rfl ?_ (hy := by (intro w hSw; (try dsimp only at hSw); have q1 := c1H.out _ hSw; go_simp; try with_reducible rfl))
   try simp only [Act.put, sA, s0, s1]
   refine sy 5 17 rfl rfl ?_; try simp only [Act.put, sA, s0, s1]
   refine sy 6 18 rfl rfl ?_; try simp only [Act.put, sA, s0, s1]
   refine sy 7 19 rfl rfl ?_; try simp only [Act.put, sA, s0, s1]
   refine sn 8 20 rfl rfl ?_; try simp only [Act.put, sA, s0, s1]
   refine sn 9 21 rfl rfl ?_; try simp only [Act.put, sA, s0, s1]
   refine sn 10 22 rfl rfl ?_; try simp only [Act.put, sA, s0, s1]
   refine sn 11 23 rfl rfl ?_; try simp only [Act.put, sA, s0, s1]
   refine sn 12 24 rfl rfl ?_; try simp only [Act.put, sA, s0, s1]
   refine sn 13 25 rfl rfl ?_; try simp only [Act.put, sA, s0, s1]
   refine sn 14 26 rfl rfl ?_; try simp only [Act.put, sA, s0, s1]
   refine sn 15 27 rfl rfl ?_; try simp only [Act.put, sA, s0, s1]
   refine sn 16 28 rfl rfl ?_; try simp only [Act.put, sA, s0, s1]
   refine sn 17 29 rfl rfl ?_; try simp only [Act.put, sA, s0, s1]
   refine sy 18 30 rfl rfl ?_; try simp only [Act.put, sA, s0, s1]
   refine sy 19 31 rfl rfl ?_; try simp only [Act.put, sA, s0, s1]
   refine wpAnyH_done (by kernel_rfl) ?_ _; clear hHeld; have CA := C5
   have OWN5 := h_ (ownsMap_chg OW.out C5.out (by simp))
   have HR5 : Hid (∀ w', Chg [r2] w5 w' → ∀ q x, (segL xs k m)[q]? = some x → _) := h_ (fun w' hc q x hx => evCells (runA_some g o k ▸ ((RA.out.chg C5.out (by simp)).chg hc (fun a ha => by cases ha; have := BLK.out.resolve_left (by intro z; rw [z] at hx; simp [segL] at hx) _ rfl; have := this.2; simp at this ⊢; omega)).run KM.out.1 KM.out.2) hx)
   clear SHC ZK c1H OW
   gi_wp2
   gi_loopw [34] (fun v34 wq => ∃ (q : Nat), q ≤ m - k ∧ v34 = .int .i64 (q : Int) ∧ Hid (wq.ownsMap Tryz.prog 35 (unitElem (H := Unit)) r2 (k + q) (dotSetE (es.take (k + q)))) ∧ Hid (Chg [r2] w5 wq)) (fun v34 _ => m - k - (RowKit.intOf v34).toNat)
   case atStart => exact ⟨0, Nat.zero_le _, rfl, OWN5, h_ (Chg.refl _ _)⟩
   case round =>
    obtain ⟨q, hq, rfl, OQ, CQ⟩ := hrel
    have q0 : (0 : Int) ≤ (q : Int) := by omega
    by_cases hlt : q < m - k
    ·
     have q1 : (q : Int) < ((m - k : Nat) : Int) := by omega
     have q3 : IntKind.i64.wrap ((q : Int) + 1) = (q : Int) + 1 := IntWalk.i64_in _ (by have := KM.out; have := HN.out; omega)
     obtain ⟨x, e, ex, ee, rx⟩ := HX.out.at_ (show k + q < xs.length by have := KM.out; omega)
     obtain ⟨z0, z1, z2, z3, z4, z5, z6⟩ := HR5.out wr CQ.out q x (by rw [seg_get xs (by omega)]; exact ex)
     have KEY := h_ (keyDot e.n e.s (dotFine (SHK.out.1 e (List.mem_of_getElem? (show (segL es k m)[q]? = some e by rw [seg_get es (by omega)]; exact ee)))).1 (dotFine (SHK.out.1 e (List.mem_of_getElem? (show (segL es k m)[q]? = some e by rw [seg_get es (by omega)]; exact ee)))).2)
     have NEXT : Hid ((dotSetE (es.take (k + q))).put (dotLit e) (.agg []) = dotSetE (es.take (k + (q + 1)))) := h_ (by rw [← dotSetE_snoc, show k + (q + 1) = (k + q) + 1 by omega, List.take_add_one, ee]; rfl)
     have EN : Hid (x.n = e.n ∧ x.s = e.s) := h_ ⟨rx.n, rx.s⟩
     obtain ⟨w6, hw6, c6, b6⟩ := news1 wr (.cells #[.int .i64 x.n, .int .i64 x.s, .string x.p, .int .i64 x.k, .int .i64 x.m, .slice x.A x.l x.c, .slice x.B x.bl x.bc] 40)
     have W6 := h_ hw6
     obtain ⟨y0, y1⟩ := ce2 b6
     rw [EN.out.1] at y0
     rw [EN.out.2] at y1
     have m3 : w6.cell? ⟨r3, 0, none⟩ = some (.map (some r2)) := by
      have p := c6.at_ (CQ.out.at_ (C5.out.at_ E3.out (by simp)) (by have := RR.out; simp; omega)) (by simp)
      simpa using cell_of p 0
     have OW6 := h_ (ownsMap_chg OQ.out c6 (by simp))
     have C6 := h_ (CQ.out.trans (c6.mono (S' := [r2]) (by simp)))
     clear ex ee rx hw6 c6 b6 OQ
     gi_upto_region 10 with fail
     rw [← W6.out]
     generalize wr.heap.size = g6 at *
     clear W6 z0 z1 z2 z3 z4 z5 z6
     gi_wp2_with (gi_at_mapUpdate; refine wpListIn_mapUpdate_own _ rfl _ _ _ 98 rfl 35 103 law_dot Tryz.underlying98 (unitElem (H := Unit)) r2 (k + q) _ rfl OW6.out (by have := KM.out; have := HN.out; unfold maxLen; omega) _ _ _ rfl rfl KEY.out (.agg []) [] unitElem_mk ?_; intro w7 own7 grow7)
     have OW7 : Hid (w7.ownsMap Tryz.prog 35 (unitElem (H := Unit)) r2 (k + (q + 1)) (dotSetE (es.take (k + (q + 1))))) := h_ (by rw [← NEXT.out]; exact own7)
     have C7 := h_ (C6.out.grown grow7 (fun i hi => by simp at hi; subst hi; exact .inl (by simp)))
     clear own7 grow7 y0 y1 m3
     gi_wp2
     go_roundw
     case rel => exact ⟨q + 1, by omega, by go_num, OW7, C7⟩
     case measure => simp [RowKit.intOf]; omega
    ·
     obtain rfl : q = m - k := by omega
     have q1 : ¬ ((m - k : Nat) : Int) < ((m - k : Nat) : Int) := by omega
     have q5 := CQ.out.at_ (C5.out.at_ E1.out (by simp)) (by have := RR.out; simp; omega)
     have f5 := free_of q5 0
     have z5 := ce1 q5
     have Q5 := h_ q5
     clear q5
     have OQ2 : Hid (wr.ownsMap Tryz.prog 35 (unitElem (H := Unit)) r2 m (dotSetE (es.take m))) := h_ (by have q := OQ.out; rwa [show k + (m - k) = m by have := KM.out; omega] at q)
     gi_wp2
     have CST := h_ ((Chg.refl [r1] wr).setCell (p := ⟨r1, 0, none⟩) (.inl (by simp)) (.slice (some ⟨g, o + k * 7, none⟩) (m - k) (m - k)))
     have CALL := h_ (((C5.out.mono (S' := [r0, r1, r2]) (by simp)).trans (CQ.out.mono (by simp))).trans (CST.out.mono (by simp)))
     refine ⟨KeepsTwo.of_chg CALL.out (fun z hz => by have := RR.out; simp at hz; omega) HSZ.out, Kpt.of_chg CALL.out HZ.out, ⟨CST.out.at_ (CQ.out.at_ (C5.out.at_ E0.out (by simp)) (by have := RR.out; simp; omega)) (by have := RR.out; simp; omega), ?_, CST.out.at_ (CQ.out.at_ (C5.out.at_ E3.out (by simp)) (by have := RR.out; simp; omega)) (by have := RR.out; simp; omega)⟩, ?_, ⟨?_, ?_⟩, ?_, Nat.le_trans HZ.out CALL.out.size⟩
     ·
      rw [aheadV_snoc, runA_some]
      simpa using heap_setCell_same wr r1 0 _ _ _ Q5.out
     ·
      rw [endRun_snoc]
      exact ownsMap_chg OQ2.out CST.out (by have := RR.out; simp; omega)
     ·
      rw [endRun_snoc]
      exact NX.out
     ·
      intro x1 x2 hx
      have e : (pre ++ [(k, m)]).getLast? = some (k, m) := by simp
      rw [e] at hx
      cases hx
      exact HRUN.out
     ·
      exact CW.out.trans' CALL.out (fun z hz => .inr (by have := RR.out; simp at hz; omega))
  have K2 : k2 = k := by rw [HK.out]; unfold endRun; rw [hp]; rfl
  subst K2
  have RJ : Hid (RunAt es j k2) := h_ (LAST.out (j, k2) hp)
  have jk := RJ.out.lt
  obtain ⟨a, ha⟩ : ∃ a, es[j]? = some a := ⟨_, List.getElem?_eq_getElem (by have := HX.out.1; have := KM.out; omega)⟩
  obtain ⟨xa, hxa⟩ : ∃ x, xs[j]? = some x := ⟨_, List.getElem?_eq_getElem (by have := KM.out; omega)⟩
  have AV : Hid (aheadV (some ⟨g, o, none⟩) pre = .slice (some ⟨g, o + j * 7, none⟩) (k2 - j) (k2 - j)) := h_ (by unfold aheadV; rw [hp]; simp only [runA_some])
  rw [AV.out] at c1H E1
  have ZJ : Hid (∀ w', Chg [] W w' → w'.cell? ⟨g, o + j * 7 + 2, none⟩ = some (.string (strOf a.p))) := h_ (fun w' hc => by
   have q := (evCells (RA.out.chg hc (by simp)) hxa).2.2.1
   rwa [XP.out j xa a hxa ha] at q)
  have LS := h_ (fun w' => phless_any w' a.p b.p (PTH.out a (List.mem_of_getElem? ha)) (PTH.out b (List.mem_of_getElem? EB.out)))
  have EA := h_ ha
  have kj0 : 0 < k2 - j := by omega
  have kj1 : (0 : Int) < ((k2 - j : Nat) : Int) := by omega
  clear hp jk ha hxa
  rcases hlv : lessL a.p b.p with _ | _
  ·
   skip
   have LV := h_ hlv
   have NO : Hid (¬ StOk es) := h_ (run_bad2 RJ.out EA.out EB.out hlv)
   clear hlv
   gi_wp2
   refine wpIn_round_held (S := fun w' => Chg [] W w') (by kernel_rfl) (by kernel_rfl) (by rintro ⟨a9, w9, h9⟩; exact h9) (Chg.refl [] W).drew (fun hHeld => ?_)
   refine sy 0 12 rfl rfl ?_; try simp only [Act.put, sA, s0, s1]
   refine on1 1 rfl (fun K hK => ?_)
   go_simp
   refine (SHC.out _ hHeld).mono ?_
   rintro r w5 ⟨rfl, hc⟩
   rw [EV.out]
   have C5 := h_ (hHeld.trans hc)
   clear hc hHeld
   refine hK.out _ _ C5.out (fun hHeld => ?_)
   clear hK K; try simp only [Act.put, sA, s0, s1]
   refine sy 2 14 rfl rfl ?_; try simp only [Act.put, sA, s0, s1]
   refine sy 3 15 rfl rfl ?_; try simp only [Act.put, sA, s0, s1]
   refine sy 4 16 rfl rfl ?_ (hy := by (intro w hSw; (try dsimp only at hSw); have q1 := c1H.out _ hSw; go_simp; try with_reducible rfl))
   try simp only [Act.put, sA, s0, s1]
   refine sy 5 17 rfl rfl ?_; try simp only [Act.put, sA, s0, s1]
   refine sy 6 18 rfl rfl ?_; try simp only [Act.put, sA, s0, s1]
   refine sy 7 19 rfl rfl ?_; try simp only [Act.put, sA, s0, s1]
   refine sy 8 20 rfl rfl ?_ (hy := by (intro w hSw; (try dsimp only at hSw); have q1 := c1H.out _ hSw; go_simp; try with_reducible rfl))
   try simp only [Act.put, sA, s0, s1]
   refine sy 9 21 rfl rfl ?_; try simp only [Act.put, sA, s0, s1]
   refine sy 10 22 rfl rfl ?_; try simp only [Act.put, sA, s0, s1]
   refine sy 11 23 rfl rfl ?_ (hy := by (intro w hSw; (try dsimp only at hSw); have qj := ZJ.out _ hSw; go_simp; try with_reducible rfl))
   try simp only [Act.put, sA, s0, s1]
   refine sy 12 24 rfl rfl ?_; try simp only [Act.put, sA, s0, s1]
   refine sy 13 25 rfl rfl ?_; try simp only [Act.put, sA, s0, s1]
   refine sy 14 26 rfl rfl ?_; try simp only [Act.put, sA, s0, s1]
   refine sy 15 27 rfl rfl ?_ (hy := by (intro w hSw; (try dsimp only at hSw); have qk := ZK.out _ hSw; go_simp; try with_reducible rfl))
   try simp only [Act.put, sA, s0, s1]
   refine on1 16 rfl (fun K hK => ?_)
   go_simp
   refine (LS.out _).mono ?_
   rintro r w5 ⟨rfl, hc⟩
   rw [LV.out]
   have C5 := h_ (hHeld.trans hc)
   clear hc hHeld
   refine hK.out _ _ C5.out (fun hHeld => ?_)
   clear hK K; try simp only [Act.put, sA, s0, s1]
   refine sy 17 29 rfl rfl ?_; try simp only [Act.put, sA, s0, s1]
   refine sy 18 30 rfl rfl ?_; try simp only [Act.put, sA, s0, s1]
   refine sy 19 31 rfl rfl ?_; try simp only [Act.put, sA, s0, s1]
   refine wpAnyH_done (by kernel_rfl) ?_ _; clear hHeld SHC ZK ZJ LS
   have q5 := (C5.out.at_ E0.out (by simp))
   have f5 := free_of q5 0
   have z5 := ce1 q5
   have Q5 := h_ q5
   clear q5
   gi_wp2
   refine ⟨?_, rfl, by simpa using heap_setCell_same _ r0 0 _ _ (.int .i64 2) Q5.out, NO.out, CW.out.trans' (C5.out.mono (S' := [r0]) (by simp)) (fun z hz => .inr (by have := RR.out; simp at hz; omega)) |>.setCell (p := ⟨r0, 0, none⟩) (.inr (by have := RR.out; show w.heap.size ≤ r0; omega)) _⟩
   exact KeepsTwo.of_chg ((C5.out.mono (S' := [r0]) (by simp)).setCell (p := ⟨r0, 0, none⟩) (.inl (by simp)) _) (fun z hz => by have := RR.out; simp at hz; omega) HSZ.out
  have LV := h_ hlv
  have NX : Hid (StOk0 (es.take m)) := h_ (run_step OK0.out HRUN.out EB.out SHK.out (.inr ⟨RJ.out, EA.out, hlv⟩))
  clear hlv
  gi_wp2
  refine wpIn_round_held (S := fun w' => Chg [] W w') (by kernel_rfl) (by kernel_rfl) (by rintro ⟨a9, w9, h9⟩; exact h9) (Chg.refl [] W).drew (fun hHeld => ?_)
  refine sy 0 12 rfl rfl ?_; try simp only [Act.put, sA, s0, s1]
  refine on1 1 rfl (fun K hK => ?_)
  go_simp
  refine (SHC.out _ hHeld).mono ?_
  rintro r w5 ⟨rfl, hc⟩
  rw [EV.out]
  have C5 := h_ (hHeld.trans hc)
  clear hc hHeld
  refine hK.out _ _ C5.out (fun hHeld => ?_)
  clear hK K; try simp only [Act.put, sA, s0, s1]
  refine sy 2 14 rfl rfl ?_; try simp only [Act.put, sA, s0, s1]
  refine sy 3 15 rfl rfl ?_; try simp only [Act.put, sA, s0, s1]
  refine sy 4 16 rfl rfl ?_ (hy := by (intro w hSw; (try dsimp only at hSw); have q1 := c1H.out _ hSw; go_simp; try with_reducible rfl))
  try simp only [Act.put, sA, s0, s1]
  refine sy 5 17 rfl rfl ?_; try simp only [Act.put, sA, s0, s1]
  refine sy 6 18 rfl rfl ?_; try simp only [Act.put, sA, s0, s1]
  refine sy 7 19 rfl rfl ?_; try simp only [Act.put, sA, s0, s1]
  refine sy 8 20 rfl rfl ?_ (hy := by (intro w hSw; (try dsimp only at hSw); have q1 := c1H.out _ hSw; go_simp; try with_reducible rfl))
  try simp only [Act.put, sA, s0, s1]
  refine sy 9 21 rfl rfl ?_; try simp only [Act.put, sA, s0, s1]
  refine sy 10 22 rfl rfl ?_; try simp only [Act.put, sA, s0, s1]
  refine sy 11 23 rfl rfl ?_ (hy := by (intro w hSw; (try dsimp only at hSw); have qj := ZJ.out _ hSw; go_simp; try with_reducible rfl))
  try simp only [Act.put, sA, s0, s1]
  refine sy 12 24 rfl rfl ?_; try simp only [Act.put, sA, s0, s1]
  refine sy 13 25 rfl rfl ?_; try simp only [Act.put, sA, s0, s1]
  refine sy 14 26 rfl rfl ?_; try simp only [Act.put, sA, s0, s1]
  refine sy 15 27 rfl rfl ?_ (hy := by (intro w hSw; (try dsimp only at hSw); have qk := ZK.out _ hSw; go_simp; try with_reducible rfl))
  try simp only [Act.put, sA, s0, s1]
  refine on1 16 rfl (fun K hK => ?_)
  go_simp
  refine (LS.out _).mono ?_
  rintro r w5 ⟨rfl, hc⟩
  rw [LV.out]
  have C5 := h_ (hHeld.trans hc)
  clear hc hHeld
  refine hK.out _ _ C5.out (fun hHeld => ?_)
  clear hK K; try simp only [Act.put, sA, s0, s1]
  refine sy 17 29 rfl rfl ?_; try simp only [Act.put, sA, s0, s1]
  refine sy 18 30 rfl rfl ?_; try simp only [Act.put, sA, s0, s1]
  refine sy 19 31 rfl rfl ?_; try simp only [Act.put, sA, s0, s1]
  refine wpAnyH_done (by kernel_rfl) ?_ _; clear hHeld ZJ LS; have CA := C5
  have OWN5 := h_ (ownsMap_chg OW.out C5.out (by simp))
  have HR5 : Hid (∀ w', Chg [r2] w5 w' → ∀ q x, (segL xs k2 m)[q]? = some x → _) := h_ (fun w' hc q x hx => evCells (runA_some g o k2 ▸ ((RA.out.chg C5.out (by simp)).chg hc (fun a ha => by cases ha; have := BLK.out.resolve_left (by intro z; rw [z] at hx; simp [segL] at hx) _ rfl; have := this.2; simp at this ⊢; omega)).run KM.out.1 KM.out.2) hx)
  clear SHC ZK c1H OW
  gi_wp2
  gi_loopw [34] (fun v34 wq => ∃ (q : Nat), q ≤ m - k2 ∧ v34 = .int .i64 (q : Int) ∧ Hid (wq.ownsMap Tryz.prog 35 (unitElem (H := Unit)) r2 (k2 + q) (dotSetE (es.take (k2 + q)))) ∧ Hid (Chg [r2] w5 wq)) (fun v34 _ => m - k2 - (RowKit.intOf v34).toNat)
  case atStart => exact ⟨0, Nat.zero_le _, rfl, OWN5, h_ (Chg.refl _ _)⟩
  case round =>
   obtain ⟨q, hq, rfl, OQ, CQ⟩ := hrel
   have q0 : (0 : Int) ≤ (q : Int) := by omega
   by_cases hlt : q < m - k2
   ·
    have q1 : (q : Int) < ((m - k2 : Nat) : Int) := by omega
    have q3 : IntKind.i64.wrap ((q : Int) + 1) = (q : Int) + 1 := IntWalk.i64_in _ (by have := KM.out; have := HN.out; omega)
    obtain ⟨x, e, ex, ee, rx⟩ := HX.out.at_ (show k2 + q < xs.length by have := KM.out; omega)
    obtain ⟨z0, z1, z2, z3, z4, z5, z6⟩ := HR5.out wr CQ.out q x (by rw [seg_get xs (by omega)]; exact ex)
    have KEY := h_ (keyDot e.n e.s (dotFine (SHK.out.1 e (List.mem_of_getElem? (show (segL es k2 m)[q]? = some e by rw [seg_get es (by omega)]; exact ee)))).1 (dotFine (SHK.out.1 e (List.mem_of_getElem? (show (segL es k2 m)[q]? = some e by rw [seg_get es (by omega)]; exact ee)))).2)
    have NEXT : Hid ((dotSetE (es.take (k2 + q))).put (dotLit e) (.agg []) = dotSetE (es.take (k2 + (q + 1)))) := h_ (by rw [← dotSetE_snoc, show k2 + (q + 1) = (k2 + q) + 1 by omega, List.take_add_one, ee]; rfl)
    have EN : Hid (x.n = e.n ∧ x.s = e.s) := h_ ⟨rx.n, rx.s⟩
    obtain ⟨w6, hw6, c6, b6⟩ := news1 wr (.cells #[.int .i64 x.n, .int .i64 x.s, .string x.p, .int .i64 x.k, .int .i64 x.m, .slice x.A x.l x.c, .slice x.B x.bl x.bc] 40)
    have W6 := h_ hw6
    obtain ⟨y0, y1⟩ := ce2 b6
    rw [EN.out.1] at y0
    rw [EN.out.2] at y1
    have m3 : w6.cell? ⟨r3, 0, none⟩ = some (.map (some r2)) := by
     have p := c6.at_ (CQ.out.at_ (C5.out.at_ E3.out (by simp)) (by have := RR.out; simp; omega)) (by simp)
     simpa using cell_of p 0
    have OW6 := h_ (ownsMap_chg OQ.out c6 (by simp))
    have C6 := h_ (CQ.out.trans (c6.mono (S' := [r2]) (by simp)))
    clear ex ee rx hw6 c6 b6 OQ
    gi_upto_region 10 with fail
    rw [← W6.out]
    generalize wr.heap.size = g6 at *
    clear W6 z0 z1 z2 z3 z4 z5 z6
    gi_wp2_with (gi_at_mapUpdate; refine wpListIn_mapUpdate_own _ rfl _ _ _ 98 rfl 35 103 law_dot Tryz.underlying98 (unitElem (H := Unit)) r2 (k2 + q) _ rfl OW6.out (by have := KM.out; have := HN.out; unfold maxLen; omega) _ _ _ rfl rfl KEY.out (.agg []) [] unitElem_mk ?_; intro w7 own7 grow7)
    have OW7 : Hid (w7.ownsMap Tryz.prog 35 (unitElem (H := Unit)) r2 (k2 + (q + 1)) (dotSetE (es.take (k2 + (q + 1))))) := h_ (by rw [← NEXT.out]; exact own7)
    have C7 := h_ (C6.out.grown grow7 (fun i hi => by simp at hi; subst hi; exact .inl (by simp)))
    clear own7 grow7 y0 y1 m3
    gi_wp2
    go_roundw
    case rel => exact ⟨q + 1, by omega, by go_num, OW7, C7⟩
    case measure => simp [RowKit.intOf]; omega
   ·
    obtain rfl : q = m - k2 := by omega
    have q1 : ¬ ((m - k2 : Nat) : Int) < ((m - k2 : Nat) : Int) := by omega
    have q5 := CQ.out.at_ (C5.out.at_ E1.out (by simp)) (by have := RR.out; simp; omega)
    have f5 := free_of q5 0
    have z5 := ce1 q5
    have Q5 := h_ q5
    clear q5
    have OQ2 : Hid (wr.ownsMap Tryz.prog 35 (unitElem (H := Unit)) r2 m (dotSetE (es.take m))) := h_ (by have q := OQ.out; rwa [show k2 + (m - k2) = m by have := KM.out; omega] at q)
    gi_wp2
    have CST := h_ ((Chg.refl [r1] wr).setCell (p := ⟨r1, 0, none⟩) (.inl (by simp)) (.slice (some ⟨g, o + k2 * 7, none⟩) (m - k2) (m - k2)))
    have CALL := h_ (((C5.out.mono (S' := [r0, r1, r2]) (by simp)).trans (CQ.out.mono (by simp))).trans (CST.out.mono (by simp)))
    refine ⟨KeepsTwo.of_chg CALL.out (fun z hz => by have := RR.out; simp at hz; omega) HSZ.out, Kpt.of_chg CALL.out HZ.out, ⟨CST.out.at_ (CQ.out.at_ (C5.out.at_ E0.out (by simp)) (by have := RR.out; simp; omega)) (by have := RR.out; simp; omega), ?_, CST.out.at_ (CQ.out.at_ (C5.out.at_ E3.out (by simp)) (by have := RR.out; simp; omega)) (by have := RR.out; simp; omega)⟩, ?_, ⟨?_, ?_⟩, ?_, Nat.le_trans HZ.out CALL.out.size⟩
    ·
     rw [aheadV_snoc, runA_some]
     simpa using heap_setCell_same wr r1 0 _ _ _ Q5.out
    ·
     rw [endRun_snoc]
     exact ownsMap_chg OQ2.out CST.out (by have := RR.out; simp; omega)
    ·
     rw [endRun_snoc]
     exact NX.out
    ·
     intro x1 x2 hx
     have e : (pre ++ [(k2, m)]).getLast? = some (k2, m) := by simp
     rw [e] at hx
     cases hx
     exact HRUN.out
    ·
     exact CW.out.trans' CALL.out (fun z hz => .inr (by have := RR.out; simp at hz; omega))
 case done =>
  rintro D zs W hD hS ⟨⟨e0, e1, e3⟩, ow, ⟨ok0, _⟩, hC, hz⟩ hK
  rw [hS, List.take_length] at ow ok0
  have rr := RR.out
  obtain ⟨hle, hiff⟩ := dotSetE_ok ok0
  have XL := HX.out.1
  obtain ⟨sz, hsz⟩ : ∃ sz, Go.Maps.size (dotSetE es) = sz := ⟨_, rfl⟩
  rw [hsz] at hle hiff
  have ST : Hid (stE es = if sz < xs.length then 2 else 0) := h_ (by
   by_cases q : sz < xs.length
   ·
    rw [if_pos q]
    unfold stE
    rw [if_neg]
    intro so
    exact (hiff.2 (stOk_iff.1 so).2) (by omega)
   ·
    rw [if_neg q]
    exact stE_zero.2 (stOk_iff.2 ⟨ok0, hiff.1 (by omega)⟩))
  have E0 := h_ e0
  have HCW := h_ hC
  have OWH := h_ ow
  have z0 := cell_of e0 0
  have f0 := free_of e0 0
  have z3 := ce1 e3
  simp only [gA, gZ] at z0
  have ne : D ≠ r0 := by omega
  have dw : w.heap.size ≤ D := by omega
  have NE := h_ (And.intro ne dw)
  have KD := h_ hK
  have SZH := h_ hsz
  clear hD hS e0 e1 e3 ow ok0 hC hz hK rr hle hiff XL hsz ne dw
  have FINV : ∀ v : Int, stE es = v → ∀ o, (((W.setCell ⟨r0, 0, none⟩ (.int .i64 v)).putObj D o).cell? ⟨r0, 0, none⟩ = some (.int .i64 v)) := fun v _ o => by
   have p := cell_of ((World.putObj_heap_other (o := o) (fun e => NE.out.1 e.symm)).trans (heap_setCell_same W r0 0 _ _ (.int .i64 v) E0.out)) 0
   simpa using p
  have FV := h_ FINV
  clear FINV
  by_cases q : sz < xs.length
  ·
   have q1 : (sz : Int) < (xs.length : Int) := by omega
   have EV : Hid (stE es = 2) := h_ (by rw [ST.out, if_pos q])
   clear ST
   gi_wp2_with (gi_at_len; refine wpListIn_len_own _ rfl _ _ rfl 35 103 Tryz.underlying98 _ r2 _ _ rfl OWH.out ?_; rw [SZH.out])
   refine ⟨by simp, .inl ⟨_, _, rfl, run_takeDeferred ((heap_setCell_other W ⟨r0, 0, none⟩ D _ NE.out.1).trans KD.out), ?_⟩⟩
   exact ⟨_, stcheck_result _ _ r0 _ rfl (FV.out 2 EV.out _), by rw [EV.out], (HCW.out.setCell (p := ⟨r0, 0, none⟩) (.inr (Nat.le_of_eq RR.out.1)) (.int .i64 2)).putl NE.out.2⟩
  ·
   have q1 : ¬ (sz : Int) < (xs.length : Int) := by omega
   have EV : Hid (stE es = 0) := h_ (by rw [ST.out, if_neg q])
   clear ST
   gi_wp2_with (gi_at_len; refine wpListIn_len_own _ rfl _ _ rfl 35 103 Tryz.underlying98 _ r2 _ _ rfl OWH.out ?_; rw [SZH.out])
   refine ⟨by simp, .inl ⟨_, _, rfl, run_takeDeferred ((heap_setCell_other W ⟨r0, 0, none⟩ D _ NE.out.1).trans KD.out), ?_⟩⟩
   exact ⟨_, stcheck_result _ _ r0 _ rfl (FV.out 0 EV.out _), by rw [EV.out], (HCW.out.setCell (p := ⟨r0, 0, none⟩) (.inr (Nat.le_of_eq RR.out.1)) (.int .i64 0)).putl NE.out.2⟩
 case stop =>
  rintro D c zs W hD _ ⟨rfl, e0, no, hC⟩ hK
  have rr := RR.out
  have EV : Hid (stE es = 2) := h_ ((stE_two es).resolve_left (fun q => no (stE_zero.1 q)))
  have E0 := h_ e0
  have HCW := h_ hC
  have z0 := ce1 e0
  have NE := h_ (And.intro (show D ≠ r0 by omega) (show w.heap.size ≤ D by omega))
  have KD := h_ hK
  clear hD e0 no hC hK rr
  gi_wp2
  have Z : ∀ o, (W.putObj D o).cell? ⟨r0, 0, none⟩ = some (.int .i64 2) := fun o => by
   have p := cell_of ((World.putObj_heap_other (o := o) (fun e => NE.out.1 e.symm)).trans E0.out) 0
   simpa using p
  refine ⟨by simp, .inl ⟨_, _, rfl, run_takeDeferred KD.out, ?_⟩⟩
  exact ⟨_, stcheck_result _ _ r0 _ rfl (Z _), by rw [EV.out], HCW.out.putl NE.out.2⟩
end
end Go.Proofs.YtehmchdhlhchjaaGreatDoor
