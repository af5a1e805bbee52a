/- store.Check. store.Put, store.Join. The document's Of. Package dot: Sort: a copy, the library's sort, what is told twice left out. slices.Clone, slices.Compact over dots; dot.Sort. dot.Sort: each dot once, in order. What is told once, in order: there is one such list. The document's Sort: one by one, each put where it belongs: no memory here. -/
import Derived.Test.YtomgjogkkoigbaaGreatDoorZspz
import Derived.Test.YtomgjogkkoigbaaGreatDoorZspu
import Derived.Maps.OwnIn
import Derived.Sort.CutIn
import Derived.Deep.Cut
import Derived.Test.YtomgjogkkoigbaaGreatDoorZspd
import Derived.Test.YtomgjogkkoigbaaGreatDoorZspl
import Derived.Test.YtomgjogkkoigbaaGreatDoorZspm
import Derived.Test.YtomgjogkkoigbaaGreatDoorZspb
import Derived.Deep.RegionHeld3
import Derived.Test.YtomgjogkkoigbaaGreatDoorShelf5
set_option linter.unusedSimpArgs false
set_option linter.unusedVariables false
namespace Go.Proofs.YtomgjogkkoigbaaGreatDoor
section
open Go.RowKit Go.Lib


attribute [local go_sem] Oper.semAt_some
theorem RdK.run {w : World} {A : Option Addr} {xs : List EvT} (h : RdK evTy w A xs.length xs) {k m : Nat} (km : k < m) (hm : m ≤ xs.length) : RdK evTy w (runA A k) (segL xs k m).length (segL xs k m) := by
 rw [runA_sub (c := xs.length) (by omega), seg_len xs hm]
 exact h.sub (Nat.le_refl _) (Nat.le_of_lt km) hm
theorem ownsMap_chg {H : Type} {w w' : World} {S : List Nat} {P : Program} {k : TypeId} {R : Value → Option (DataW H × List MemPlace)} {b n : Nat} {D : DataW H} (h : w.ownsMap P k R b n D) (hc : Chg S w w') (hb : b ∉ S) : w'.ownsMap P k R b n D := by
 obtain ⟨es, clock, q, r⟩ := h
 exact ⟨es, clock, hc.at_ q hb, r⟩
theorem ownsMap_kpt {H : Type} {w w' : World} {S : List Nat} {P : Program} {k : TypeId} {R : Value → Option (DataW H × List MemPlace)} {b n m : Nat} {D : DataW H} (h : w.ownsMap P k R b n D) (hc : Kpt m S w w') (hm : b < m) (hb : b ∉ S) : w'.ownsMap P k R b n D := by
 obtain ⟨es, clock, q, r⟩ := h
 exact ⟨es, clock, (hc.block b hm hb).trans q, r⟩
def aheadV (A : Option Addr) (pre : List (Nat × Nat)) : Value := match pre.getLast? with
 | none => .slice none 0 0
 | some x => .slice (runA A x.1) (x.2 - x.1) (x.2 - x.1)
theorem aheadV_snoc (A : Option Addr) (pre : List (Nat × Nat)) (x : Nat × Nat) : aheadV A (pre ++ [x]) = .slice (runA A x.1) (x.2 - x.1) (x.2 - x.1) := by unfold aheadV; simp
theorem dotFine {e : EvP} (h : chkEv e = 0) : (Lit.int .i64 e.n).wf = true ∧ (Lit.int .i64 e.s).wf = true := by
 have q : EvOk e := by
  unfold chkEv at h
  split at h
  ·
   assumption
  ·
   cases h
 have f : chkD e.n e.s = 0 := q.1
 unfold chkD at f
 split at f
 ·
  rename_i d
  unfold FineD at d
  exact ⟨WalkArith.wf_i64 (by omega), WalkArith.wf_i64 (by omega)⟩
 ·
  cases f
theorem dotSetE_ok {es : List EvP} (h : StOk0 es) : Go.Maps.size (dotSetE es) ≤ es.length ∧ (¬ Go.Maps.size (dotSetE es) < es.length ↔ es.Pairwise dotNe) :=
 dotSetE_len es (fun a ha b hb => dotLit_inj (dotFine ((h.2 a ha).1 a (mem_atS.2 ⟨ha, rfl⟩))) (dotFine ((h.2 b hb).1 b (mem_atS.2 ⟨hb, rfl⟩))))
theorem stcheck_result (tmps : Array Value) (w : World) (g : Nat) (v : Value) (hp : tmps[2]?.getD undef = .pointer (some ⟨g, 0, none⟩)) (hc : w.cell? ⟨g, 0, none⟩ = some v) : (results Tryz.f15 tmps).run Tryz.prog w = .ok v w := by
 have h : Tryz.f15.results = #[.cell 2 35] := rfl
 simp [results, h, hp, asAddr, go_sem, loadVar, Tryz.underlying35, hc]

set_option maxRecDepth 100000 in
set_option maxHeartbeats 16000000 in
theorem stcheck_any (w : World) (A : Option Addr) (c : Nat) (xs : List EvT) (es : List EvP) (h : RdK evTy w A xs.length xs) (hc : xs.length ≤ c) (ho : xs = [] ∨ ∀ a, A = some a → a.block < w.heap.size) (hx : EvsR w xs es) (hn : xs.length ≤ 100000) (hs : ∀ e ∈ es, EvSm e) :
  Calls Tryz.prog 15 #[.slice A xs.length c] w fun r w' => r = .returned (.int .i64 (stE es)) ∧ Chg [] w w' := by

 refine (callsIn_wide (n := 6)).1 ?_
 refine callsIn_of_wp_marks Tryz.func15 rfl trivial ?_ rfl
 simp only [Tryz.ntmps15, List.size_toArray, List.length_cons, List.length_nil, Nat.reduceAdd, Nat.reduceSub, Array.replicate_succ, Array.replicate_zero, List.push_toArray, List.append_toArray, List.nil_append, List.cons_append]
 have hmm := @run_makeMap Tryz.prog
 obtain ⟨w1, hw1, c1, b0, b1, b2⟩ := news3 w (.cells #[.int .i64 0] 35) (.cells #[.slice none 0 0] 22) (.map #[] 0)
 obtain ⟨w2, hw2, c2, b3⟩ := news1 w1 (.cells #[.map (some (w.heap.size + 1 + 1))] 76)
 obtain ⟨w3, hw3, c3, b4⟩ := news1 w2 (.cells #[.slice A xs.length c] 22)
 have OWN0 : w1.ownsMap Tryz.prog 24 (unitElem (H := Unit)) (w.heap.size + 1 + 1) 0 (dotSetE []) := ⟨#[], 0, b2, ⟨by simp, Go.MapKept.stamped_empty 0, by simp⟩, Nat.le_refl _, rfl⟩
 have sz1 : w1.heap.size = w.heap.size + 3 := by rw [hw1]; simp
 have sz2 : w2.heap.size = w.heap.size + 4 := by rw [hw2]; simp [sz1]
 have sz3 : w3.heap.size = w.heap.size + 5 := by rw [hw3]; simp [sz2]
 have W1 := Lib.hid hw1
 have W2 := Lib.hid hw2
 have W3 := Lib.hid hw3
 have Q0 := Lib.hid (c3.at_ (c2.at_ b0 (by simp)) (by simp))
 have Q1 := Lib.hid (c3.at_ (c2.at_ b1 (by simp)) (by simp))
 have Q3 := Lib.hid (c3.at_ b3 (by simp))
 have Q4 := Lib.hid b4
 have QM := Lib.hid (ownsMap_chg OWN0 (c2.trans c3) (by simp))
 have C3 := Lib.hid (c1.trans (c2.trans c3))
 have SZ := Lib.hid (And.intro sz1 (And.intro sz2 sz3))
 rw [sz1] at Q3
 rw [sz2] at Q4
 clear hw1 hw2 hw3 c1 c2 c3 b0 b1 b2 b3 b4 OWN0 sz1 sz2 sz3
 gi_wp2_with (refine ⟨trivial, ?_⟩; gi_at_call 53; refine (callsIn_wide.2 (struns_any _ A xs.length c)).mono ?_; rintro e w9 ⟨rfl, rfl⟩)
 rw [← W1.out, ← W2.out, ← W3.out]
 obtain ⟨r0, h0⟩ : ∃ r, w.heap.size = r := ⟨_, rfl⟩
 obtain ⟨r1, h1⟩ : ∃ r, r0 + 1 = r := ⟨_, rfl⟩
 obtain ⟨r2, h2⟩ : ∃ r, r1 + 1 = r := ⟨_, rfl⟩
 obtain ⟨r3, h3⟩ : ∃ r, r2 + 1 = r := ⟨_, rfl⟩
 obtain ⟨r4, h4⟩ : ∃ r, r3 + 1 = r := ⟨_, rfl⟩
 rw [show w.heap.size + 3 = w.heap.size + 1 + 1 + 1 from rfl] at Q3
 rw [show w.heap.size + 4 = w.heap.size + 1 + 1 + 1 + 1 from rfl] at Q4
 rw [h0] at Q0 Q1 QM Q3 Q4 ⊢
 rw [h1] at Q1 QM Q3 Q4 ⊢
 rw [h2] at QM Q3 Q4 ⊢
 rw [h3] at Q3 Q4 ⊢
 rw [h4] at Q4 ⊢
 have RR : Hid (w.heap.size = r0 ∧ r1 = r0 + 1 ∧ r2 = r0 + 2 ∧ r3 = r0 + 3 ∧ r4 = r0 + 4 ∧ w3.heap.size = r0 + 5) := Lib.hid (by have := SZ.out; omega)
 have HA := Lib.hid h
 have HC := Lib.hid hc
 have HO := Lib.hid ho
 have HX := Lib.hid hx
 have HN := Lib.hid hn
 have HS := Lib.hid hs
 clear W1 W2 W3 SZ h0 h1 h2 h3 h4 h hc ho hx hn hs hmm
 have XP : Hid (∀ (i : Nat) (x : EvT) (e : EvP), xs[i]? = some x → es[i]? = some e → x.p = strOf e.p) := Lib.hid (fun i x e a b => (HX.out.2 i x e a b).p)
 have BLK : Hid (xs = [] ∨ ∀ a, A = some a → a.block < w3.heap.size ∧ a.block ∉ [r0, r1, r2]) := Lib.hid (HO.out.imp id (fun q a ha => by have := q a ha; have := RR.out; exact ⟨by omega, by simp; omega⟩))
 refine range_brkm (gf := 115) (lb := #[.pointer (some ⟨r4, 0, none⟩)]) rfl (enters_of Tryz.func115 (by kernel_rfl) rfl) (encs := fun x : Nat × Nat => #[.slice (runA A x.1) (x.2 - x.1) (x.2 - x.1)]) (n₁ := w3.heap.size) (Nat.le_refl _)
  (S := fun ys => endRun ys = es.length) (Sp := fun _ => True) (Ex := fun pre x _ => x.1 = endRun pre ∧ RunAt es x.1 x.2) (Si := []) (T := [r0, r1, r2]) ?si ?seq (fun _ => rfl)
  (fun pre W => (W.heap[r0]? = some (.cells #[.int .i64 0] 35 (0, 0)) ∧ W.heap[r1]? = some (.cells #[aheadV A pre] 22 (0, 0)) ∧ W.heap[r3]? = some (.cells #[.map (some r2)] 76 (0, 0))) ∧ W.ownsMap Tryz.prog 24 (unitElem (H := Unit)) r2 (endRun pre) (dotSetE (es.take (endRun pre))) ∧ (StOk0 (es.take (endRun pre)) ∧ ∀ x ∈ pre.getLast?, RunAt es x.1 x.2) ∧ Chg [] w W ∧ w3.heap.size ≤ W.heap.size)
  (fun c pre W => c = .ret ∧ W.heap[r0]? = some (.cells #[.int .i64 2] 35 (0, 0)) ∧ ¬ StOk es ∧ Chg [] w W)
  ?keep ?keepx ?start ?elem
  (fun x => { tmps := #[.slice A xs.length c, undef, .pointer (some ⟨r0, 0, none⟩), .pointer (some ⟨r1, 0, none⟩), .pointer (some ⟨r3, 0, none⟩), .slice (runA A x.1) (x.2 - x.1) (x.2 - x.1), undef, undef, .map (some r2), .slice A xs.length c, .func (.func 115) #[] #[.pointer (some ⟨r4, 0, none⟩)], .slice (runA A x.1) (x.2 - x.1) (x.2 - x.1), undef, undef, undef, undef, undef, undef, undef, undef, undef, undef, undef, undef, undef, undef, undef, undef, undef, undef, undef, undef, undef, undef, undef, undef, undef, undef, undef, undef, undef, undef, undef, undef, undef, undef, undef, undef, undef], defers := [] }) ?assign ?body ?done ?stop
 case si => simp
 case start => exact ⟨⟨Q0.out, Q1.out, Q3.out⟩, QM.out, ⟨st0_nil, by simp⟩, C3.out, Nat.le_refl _⟩
 case seq =>
  intro l' J Jx W hW hJ hJx hY h0
  have hs2 := hW.size
  refine runs1_gives 4 l' w3.heap.size r4 [r0, r1, r2] A c xs es J Jx W (by have := RR.out; omega) (by have := RR.out; simp; omega) (by omega) BLK.out (fun pre A B h1 h2 hc => hJ pre A B h2 (Kpt.of_chg hc h1)) HX.out.1 XP.out (HA.out.chg (C3.out.trans (Chg.ofBelow hW (Nat.le_refl _) [])) (by simp)) HC.out HN.out ((hW.block _ (by have := RR.out; omega)).trans Q4.out) hY h0
 case keep =>
  rintro pre A' B' ⟨⟨e0, e1, e3⟩, ow, ok, hC, hz⟩ hb
  have rr := RR.out
  exact ⟨⟨(hb.block _ (by omega) (by simp)).trans e0, (hb.block _ (by omega) (by simp)).trans e1, (hb.block _ (by omega) (by simp)).trans e3⟩, ownsMap_kpt ow hb (by omega) (by simp), ok, ((Kpt.of_chg hC (Nat.le_refl _)).trans (hb.mono (by omega) (by simp))).chg, Nat.le_trans hz hb.size⟩
 case keepx =>
  rintro c pre A' B' ⟨hc, e0, no, hC⟩ hb
  have rr := RR.out
  exact ⟨hc, (hb.block _ (by omega) (by simp)).trans e0, no, ((Kpt.of_chg hC (Nat.le_refl _)).trans (hb.mono (by omega) (by simp))).chg⟩
 case elem =>
  rintro pre x W l o o' hl ho hx
  exact hx
 case assign =>
  intro l x W K hK
  gi_wp2
  exact hK
 case body =>
  rintro l' pre ⟨k, m⟩ W hsz ⟨⟨e0, e1, e3⟩, ow, ⟨ok0, hlast⟩, hC, hz⟩ ⟨hk, hrun⟩
  have rr := RR.out
  dsimp only at hk hrun ⊢
  rw [← hk] at ow ok0
  have km := hrun.lt
  have mn : m ≤ xs.length := by have := hrun.le; have := HX.out.1; omega
  have RA := Lib.hid (HA.out.chg hC (by simp))
  obtain ⟨g, o, eA, _⟩ := RA.out.line (by omega)
  subst eA
  obtain ⟨b, hb⟩ : ∃ b, es[k]? = some b := ⟨_, List.getElem?_eq_getElem (by have := HX.out.1; omega)⟩
  obtain ⟨x0, hx0⟩ : ∃ x, xs[k]? = some x := ⟨_, List.getElem?_eq_getElem (by omega)⟩
  have SB : Hid (x0.p = strOf b.p) := Lib.hid (XP.out k x0 b hx0 hb)
  have LEN : Hid ((segL xs k m).length = m - k) := Lib.hid (seg_len xs mn)
  have SHC : Hid (∀ w', Chg [] W w' → Calls Tryz.prog 54 #[.slice (some ⟨g, o + k * 7, none⟩) (m - k) (m - k)] w' fun r w2 => r = .returned (.int .i64 (shE (segL es k m))) ∧ Chg [] w' w2) := Lib.hid (fun w' hc => by
   have q := shcheck_any w' (runA (some ⟨g, o, none⟩) k) (m - k) (segL xs k m) (segL es k m) ((RA.out.chg hc (by simp)).run km mn) ((HX.out.chg (hC.trans hc)).seg k m) (by rw [LEN.out]; have := HN.out; omega) (fun e he => HS.out e (by unfold segL at he; exact List.mem_of_mem_take (List.mem_of_mem_drop he)))
   rwa [runA_some, LEN.out] at q)
  have ZK : Hid (∀ w', Chg [] W w' → w'.cell? ⟨g, o + k * 7 + 2, none⟩ = some (.string (strOf b.p))) := Lib.hid (fun w' hc => by
   have q := (evCells (RA.out.chg hc (by simp)) hx0).2.2.1
   rwa [SB.out] at q)
  have PTH : Hid (∀ e ∈ es, e.p.length ≤ 10000000) := Lib.hid (fun e he => (HS.out e he).1)
  have EB := Lib.hid hb
  have HRUN := Lib.hid hrun
  have OW := Lib.hid ow
  have OK0 := Lib.hid ok0
  have HK := Lib.hid hk
  have CW := Lib.hid hC
  have E0 := Lib.hid e0
  have E1 := Lib.hid e1
  have E3 := Lib.hid e3
  have HZ := Lib.hid hz
  have HSZ := Lib.hid hsz
  have KM := Lib.hid (And.intro km mn)
  have LAST := Lib.hid hlast
  have c1H : Hid (∀ w', Chg [] W w' → w'.cell? ⟨r1, 0, none⟩ = some (aheadV (some ⟨g, o, none⟩) pre)) := Lib.hid (fun w' hc => by
   have q := cell_of (hc.at_ E1.out (by simp)) 0
   simpa using q)
  have mk0 : 0 < m - k := by omega
  simp only [runA_some]
  clear hb hx0 hrun ow ok0 hk hC e0 e1 e3 hz hsz km mn hlast rr
  rcases shE_two (segL es k m) with ev | ev
  rotate_left
  ·
   skip
   have EV := Lib.hid ev
   have NO : Hid (¬ StOk es) := Lib.hid (run_bad1 HRUN.out EB.out (fun q => by rw [shE_zero.2 q] at ev; cases ev))
   clear ev
   gi_wp2
   refine wpIn_round_held (S := fun w' => Chg [] W w') (by kernel_rfl) (by kernel_rfl) (by rintro ⟨a9, w9, h9⟩; exact h9) (Chg.refl [] W).drew (fun hHeld => ?_)
   refine sy 0 12 rfl rfl ?_; try simp only [Act.put, sA, s0, s1]
   refine wpAnyH_ready (rs := [1]) (by kernel_rfl) (by simp) ?_; refine AllReadyH.cons rfl (fun K hK => ?_) AllReadyH.nil; replace hK := Lib.hid hK; go_simp
   refine (SHC.out _ hHeld).mono ?_
   rintro r w5 ⟨rfl, hc⟩
   rw [EV.out]
   have C5 := Lib.hid (hHeld.trans hc)
   clear hc hHeld
   refine hK.out _ _ C5.out (fun hHeld => ?_)
   clear hK K; try simp only [Act.put, sA, s0, s1]
   refine sy 2 14 rfl rfl ?_; try simp only [Act.put, sA, s0, s1]
   refine sy 3 15 rfl rfl ?_; try simp only [Act.put, sA, s0, s1]
   refine sn 4 16 rfl rfl ?_; try simp only [Act.put, sA, s0, s1]
   refine sn 5 17 rfl rfl ?_; try simp only [Act.put, sA, s0, s1]
   refine sn 6 18 rfl rfl ?_; try simp only [Act.put, sA, s0, s1]
   refine sn 7 19 rfl rfl ?_; try simp only [Act.put, sA, s0, s1]
   refine sn 8 20 rfl rfl ?_; try simp only [Act.put, sA, s0, s1]
   refine sn 9 21 rfl rfl ?_; try simp only [Act.put, sA, s0, s1]
   refine sn 10 22 rfl rfl ?_; try simp only [Act.put, sA, s0, s1]
   refine sn 11 23 rfl rfl ?_; try simp only [Act.put, sA, s0, s1]
   refine sn 12 24 rfl rfl ?_; try simp only [Act.put, sA, s0, s1]
   refine sn 13 25 rfl rfl ?_; try simp only [Act.put, sA, s0, s1]
   refine sn 14 26 rfl rfl ?_; try simp only [Act.put, sA, s0, s1]
   refine sn 15 27 rfl rfl ?_; try simp only [Act.put, sA, s0, s1]
   refine sn 16 28 rfl rfl ?_; try simp only [Act.put, sA, s0, s1]
   refine sn 17 29 rfl rfl ?_; try simp only [Act.put, sA, s0, s1]
   refine sn 18 30 rfl rfl ?_; try simp only [Act.put, sA, s0, s1]
   refine sy 19 31 rfl rfl ?_; try simp only [Act.put, sA, s0, s1]
   refine wpAnyH_done (by kernel_rfl) ?_ _; clear hHeld SHC ZK
   have q5 := (C5.out.at_ E0.out (by simp))
   have f5 := free_of q5 0
   have z5 := cell_of q5 0
   simp only [List.getElem?_toArray, List.getElem?_cons_zero] at z5
   have Q5 := Lib.hid q5
   clear q5
   gi_wp2
   refine ⟨?_, rfl, by simpa using heap_setCell_same _ r0 0 _ _ (.int .i64 2) Q5.out, NO.out, CW.out.trans' (C5.out.mono (S' := [r0]) (by simp)) (fun z hz => .inr (by have := RR.out; simp at hz; omega)) |>.setCell (p := ⟨r0, 0, none⟩) (.inr (by have := RR.out; show w.heap.size ≤ r0; omega)) _⟩
   exact KeepsTwo.of_chg ((C5.out.mono (S' := [r0]) (by simp)).setCell (p := ⟨r0, 0, none⟩) (.inl (by simp)) _) (fun z hz => by have := RR.out; simp at hz; omega) HSZ.out
  have EV := Lib.hid ev
  have SHK : Hid (ShOk (segL es k m)) := Lib.hid (shE_zero.1 ev)
  clear ev
  rcases hp : pre.getLast? with _ | ⟨j, k2⟩
  ·
   skip
   have K0 : Hid (k = 0) := Lib.hid (by rw [HK.out]; unfold endRun; rw [hp]; rfl)
   have AV : Hid (aheadV (some ⟨g, o, none⟩) pre = .slice none 0 0) := Lib.hid (by unfold aheadV; rw [hp])
   rw [AV.out] at c1H E1
   have NX : Hid (StOk0 (es.take m)) := Lib.hid (run_step (j := 0) (a := b) OK0.out HRUN.out EB.out SHK.out (.inl K0.out))
   clear hp
   gi_wp2
   refine wpIn_round_held (S := fun w' => Chg [] W w') (by kernel_rfl) (by kernel_rfl) (by rintro ⟨a9, w9, h9⟩; exact h9) (Chg.refl [] W).drew (fun hHeld => ?_)
   refine sy 0 12 rfl rfl ?_; try simp only [Act.put, sA, s0, s1]
   refine wpAnyH_ready (rs := [1]) (by kernel_rfl) (by simp) ?_; refine AllReadyH.cons rfl (fun K hK => ?_) AllReadyH.nil; replace hK := Lib.hid hK; go_simp
   refine (SHC.out _ hHeld).mono ?_
   rintro r w5 ⟨rfl, hc⟩
   rw [EV.out]
   have C5 := Lib.hid (hHeld.trans hc)
   clear hc hHeld
   refine hK.out _ _ C5.out (fun hHeld => ?_)
   clear hK K; try simp only [Act.put, sA, s0, s1]
   refine sy 2 14 rfl rfl ?_; try simp only [Act.put, sA, s0, s1]
   refine sy 3 15 rfl rfl ?_; try simp only [Act.put, sA, s0, s1]
   refine sy 4 16 rfl rfl ?_ (hy := by (intro w hSw; (try dsimp only at hSw); have q1 := c1H.out _ hSw; go_simp; try with_reducible rfl))
   try simp only [Act.put, sA, s0, s1]
   refine sy 5 17 rfl rfl ?_; try simp only [Act.put, sA, s0, s1]
   refine sy 6 18 rfl rfl ?_; try simp only [Act.put, sA, s0, s1]
   refine sy 7 19 rfl rfl ?_; try simp only [Act.put, sA, s0, s1]
   refine sn 8 20 rfl rfl ?_; try simp only [Act.put, sA, s0, s1]
   refine sn 9 21 rfl rfl ?_; try simp only [Act.put, sA, s0, s1]
   refine sn 10 22 rfl rfl ?_; try simp only [Act.put, sA, s0, s1]
   refine sn 11 23 rfl rfl ?_; try simp only [Act.put, sA, s0, s1]
   refine sn 12 24 rfl rfl ?_; try simp only [Act.put, sA, s0, s1]
   refine sn 13 25 rfl rfl ?_; try simp only [Act.put, sA, s0, s1]
   refine sn 14 26 rfl rfl ?_; try simp only [Act.put, sA, s0, s1]
   refine sn 15 27 rfl rfl ?_; try simp only [Act.put, sA, s0, s1]
   refine sn 16 28 rfl rfl ?_; try simp only [Act.put, sA, s0, s1]
   refine sn 17 29 rfl rfl ?_; try simp only [Act.put, sA, s0, s1]
   refine sy 18 30 rfl rfl ?_; try simp only [Act.put, sA, s0, s1]
   refine sy 19 31 rfl rfl ?_; try simp only [Act.put, sA, s0, s1]
   refine wpAnyH_done (by kernel_rfl) ?_ _; clear hHeld; have CA := C5
   have OWN5 := Lib.hid (ownsMap_chg OW.out C5.out (by simp))
   have HR5 : Hid (∀ w', Chg [r2] w5 w' → ∀ q x, (segL xs k m)[q]? = some x → _) := Lib.hid (fun w' hc q x hx => evCells (runA_some g o k ▸ ((RA.out.chg C5.out (by simp)).chg hc (fun a ha => by cases ha; have := BLK.out.resolve_left (by intro z; rw [z] at hx; simp [segL] at hx) _ rfl; have := this.2; simp at this ⊢; omega)).run KM.out.1 KM.out.2) hx)
   clear SHC ZK c1H OW
   gi_wp2
   gi_loopw [34] (fun v34 wq => ∃ (q : Nat), q ≤ m - k ∧ v34 = .int .i64 (q : Int) ∧ Hid (wq.ownsMap Tryz.prog 24 (unitElem (H := Unit)) r2 (k + q) (dotSetE (es.take (k + q)))) ∧ Hid (Chg [r2] w5 wq)) (fun v34 _ => m - k - (RowKit.intOf v34).toNat)
   case atStart => exact ⟨0, Nat.zero_le _, rfl, OWN5, Lib.hid (Chg.refl _ _)⟩
   case round =>
    obtain ⟨q, hq, rfl, OQ, CQ⟩ := hrel
    have q0 : (0 : Int) ≤ (q : Int) := by omega
    by_cases hlt : q < m - k
    ·
     have q1 : (q : Int) < ((m - k : Nat) : Int) := by omega
     have q3 : IntKind.i64.wrap ((q : Int) + 1) = (q : Int) + 1 := IntWalk.i64_in _ (by have := KM.out; have := HN.out; omega)
     obtain ⟨x, e, ex, ee, rx⟩ := HX.out.at_ (show k + q < xs.length by have := KM.out; omega)
     obtain ⟨z0, z1, z2, z3, z4, z5, z6⟩ := HR5.out wr CQ.out q x (by rw [seg_get xs (by omega)]; exact ex)
     have KEY := Lib.hid (keyDot e.n e.s (dotFine (SHK.out.1 e (List.mem_of_getElem? (show (segL es k m)[q]? = some e by rw [seg_get es (by omega)]; exact ee)))).1 (dotFine (SHK.out.1 e (List.mem_of_getElem? (show (segL es k m)[q]? = some e by rw [seg_get es (by omega)]; exact ee)))).2)
     have NEXT : Hid ((dotSetE (es.take (k + q))).put (dotLit e) (.agg []) = dotSetE (es.take (k + (q + 1)))) := Lib.hid (by rw [← dotSetE_snoc, show k + (q + 1) = (k + q) + 1 by omega, List.take_add_one, ee]; rfl)
     have EN : Hid (x.n = e.n ∧ x.s = e.s) := Lib.hid ⟨rx.n, rx.s⟩
     obtain ⟨w6, hw6, c6, b6⟩ := news1 wr (.cells #[.int .i64 x.n, .int .i64 x.s, .string x.p, .int .i64 x.k, .int .i64 x.m, .slice x.A x.l x.c, .slice x.B x.bl x.bc] 30)
     have W6 := Lib.hid hw6
     have y0 := cell_of b6 0
     have y1 := cell_of b6 1
     simp only [List.getElem?_toArray, List.getElem?_cons_succ, List.getElem?_cons_zero] at y0 y1
     rw [EN.out.1] at y0
     rw [EN.out.2] at y1
     have m3 : w6.cell? ⟨r3, 0, none⟩ = some (.map (some r2)) := by
      have p := c6.at_ (CQ.out.at_ (C5.out.at_ E3.out (by simp)) (by have := RR.out; simp; omega)) (by simp)
      simpa using cell_of p 0
     have OW6 := Lib.hid (ownsMap_chg OQ.out c6 (by simp))
     have C6 := Lib.hid (CQ.out.trans (c6.mono (S' := [r2]) (by simp)))
     clear ex ee rx hw6 c6 b6 OQ
     gi_upto_region 10 with fail
     rw [← W6.out]
     generalize wr.heap.size = g6 at *
     clear W6 z0 z1 z2 z3 z4 z5 z6
     gi_wp2_with (gi_at_mapUpdate; refine wpListIn_mapUpdate_own _ rfl _ _ _ 76 rfl 24 80 law_dot Tryz.underlying76 (unitElem (H := Unit)) r2 (k + q) _ rfl OW6.out (by have := KM.out; have := HN.out; unfold maxLen; omega) _ _ _ rfl rfl KEY.out (.agg []) [] unitElem_mk ?_; intro w7 own7 grow7)
     have OW7 : Hid (w7.ownsMap Tryz.prog 24 (unitElem (H := Unit)) r2 (k + (q + 1)) (dotSetE (es.take (k + (q + 1))))) := Lib.hid (by rw [← NEXT.out]; exact own7)
     have C7 := Lib.hid (C6.out.grown grow7 (fun i hi => by simp at hi; subst hi; exact .inl (by simp)))
     clear own7 grow7 y0 y1 m3
     gi_wp2
     go_roundw
     case rel => exact ⟨q + 1, by omega, by go_num, OW7, C7⟩
     case measure => simp [RowKit.intOf]; omega
    ·
     obtain rfl : q = m - k := by omega
     have q1 : ¬ ((m - k : Nat) : Int) < ((m - k : Nat) : Int) := by omega
     have q5 := CQ.out.at_ (C5.out.at_ E1.out (by simp)) (by have := RR.out; simp; omega)
     have f5 := free_of q5 0
     have z5 := cell_of q5 0
     simp only [List.getElem?_toArray, List.getElem?_cons_zero] at z5
     have Q5 := Lib.hid q5
     clear q5
     have OQ2 : Hid (wr.ownsMap Tryz.prog 24 (unitElem (H := Unit)) r2 m (dotSetE (es.take m))) := Lib.hid (by have q := OQ.out; rwa [show k + (m - k) = m by have := KM.out; omega] at q)
     gi_wp2
     have CST := Lib.hid ((Chg.refl [r1] wr).setCell (p := ⟨r1, 0, none⟩) (.inl (by simp)) (.slice (some ⟨g, o + k * 7, none⟩) (m - k) (m - k)))
     have CALL := Lib.hid (((C5.out.mono (S' := [r0, r1, r2]) (by simp)).trans (CQ.out.mono (by simp))).trans (CST.out.mono (by simp)))
     refine ⟨KeepsTwo.of_chg CALL.out (fun z hz => by have := RR.out; simp at hz; omega) HSZ.out, Kpt.of_chg CALL.out HZ.out, ⟨CST.out.at_ (CQ.out.at_ (C5.out.at_ E0.out (by simp)) (by have := RR.out; simp; omega)) (by have := RR.out; simp; omega), ?_, CST.out.at_ (CQ.out.at_ (C5.out.at_ E3.out (by simp)) (by have := RR.out; simp; omega)) (by have := RR.out; simp; omega)⟩, ?_, ⟨?_, ?_⟩, ?_, Nat.le_trans HZ.out CALL.out.size⟩
     ·
      rw [aheadV_snoc, runA_some]
      simpa using heap_setCell_same wr r1 0 _ _ _ Q5.out
     ·
      rw [endRun_snoc]
      exact ownsMap_chg OQ2.out CST.out (by have := RR.out; simp; omega)
     ·
      rw [endRun_snoc]
      exact NX.out
     ·
      intro x1 x2 hx
      have e : (pre ++ [(k, m)]).getLast? = some (k, m) := by simp
      rw [e] at hx
      cases hx
      exact HRUN.out
     ·
      exact CW.out.trans' CALL.out (fun z hz => .inr (by have := RR.out; simp at hz; omega))
  have K2 : k2 = k := by rw [HK.out]; unfold endRun; rw [hp]; rfl
  subst K2
  have RJ : Hid (RunAt es j k2) := Lib.hid (LAST.out (j, k2) hp)
  have jk := RJ.out.lt
  obtain ⟨a, ha⟩ : ∃ a, es[j]? = some a := ⟨_, List.getElem?_eq_getElem (by have := HX.out.1; have := KM.out; omega)⟩
  obtain ⟨xa, hxa⟩ : ∃ x, xs[j]? = some x := ⟨_, List.getElem?_eq_getElem (by have := KM.out; omega)⟩
  have AV : Hid (aheadV (some ⟨g, o, none⟩) pre = .slice (some ⟨g, o + j * 7, none⟩) (k2 - j) (k2 - j)) := Lib.hid (by unfold aheadV; rw [hp]; simp only [runA_some])
  rw [AV.out] at c1H E1
  have ZJ : Hid (∀ w', Chg [] W w' → w'.cell? ⟨g, o + j * 7 + 2, none⟩ = some (.string (strOf a.p))) := Lib.hid (fun w' hc => by
   have q := (evCells (RA.out.chg hc (by simp)) hxa).2.2.1
   rwa [XP.out j xa a hxa ha] at q)
  have LS := Lib.hid (fun w' => phless_any w' a.p b.p (PTH.out a (List.mem_of_getElem? ha)) (PTH.out b (List.mem_of_getElem? EB.out)))
  have EA := Lib.hid ha
  have kj0 : 0 < k2 - j := by omega
  have kj1 : (0 : Int) < ((k2 - j : Nat) : Int) := by omega
  clear hp jk ha hxa
  rcases hlv : lessL a.p b.p with _ | _
  ·
   skip
   have LV := Lib.hid hlv
   have NO : Hid (¬ StOk es) := Lib.hid (run_bad2 RJ.out EA.out EB.out hlv)
   clear hlv
   gi_wp2
   refine wpIn_round_held (S := fun w' => Chg [] W w') (by kernel_rfl) (by kernel_rfl) (by rintro ⟨a9, w9, h9⟩; exact h9) (Chg.refl [] W).drew (fun hHeld => ?_)
   refine sy 0 12 rfl rfl ?_; try simp only [Act.put, sA, s0, s1]
   refine wpAnyH_ready (rs := [1]) (by kernel_rfl) (by simp) ?_; refine AllReadyH.cons rfl (fun K hK => ?_) AllReadyH.nil; replace hK := Lib.hid hK; go_simp
   refine (SHC.out _ hHeld).mono ?_
   rintro r w5 ⟨rfl, hc⟩
   rw [EV.out]
   have C5 := Lib.hid (hHeld.trans hc)
   clear hc hHeld
   refine hK.out _ _ C5.out (fun hHeld => ?_)
   clear hK K; try simp only [Act.put, sA, s0, s1]
   refine sy 2 14 rfl rfl ?_; try simp only [Act.put, sA, s0, s1]
   refine sy 3 15 rfl rfl ?_; try simp only [Act.put, sA, s0, s1]
   refine sy 4 16 rfl rfl ?_ (hy := by (intro w hSw; (try dsimp only at hSw); have q1 := c1H.out _ hSw; go_simp; try with_reducible rfl))
   try simp only [Act.put, sA, s0, s1]
   refine sy 5 17 rfl rfl ?_; try simp only [Act.put, sA, s0, s1]
   refine sy 6 18 rfl rfl ?_; try simp only [Act.put, sA, s0, s1]
   refine sy 7 19 rfl rfl ?_; try simp only [Act.put, sA, s0, s1]
   refine sy 8 20 rfl rfl ?_ (hy := by (intro w hSw; (try dsimp only at hSw); have q1 := c1H.out _ hSw; go_simp; try with_reducible rfl))
   try simp only [Act.put, sA, s0, s1]
   refine sy 9 21 rfl rfl ?_; try simp only [Act.put, sA, s0, s1]
   refine sy 10 22 rfl rfl ?_; try simp only [Act.put, sA, s0, s1]
   refine sy 11 23 rfl rfl ?_ (hy := by (intro w hSw; (try dsimp only at hSw); have qj := ZJ.out _ hSw; go_simp; try with_reducible rfl))
   try simp only [Act.put, sA, s0, s1]
   refine sy 12 24 rfl rfl ?_; try simp only [Act.put, sA, s0, s1]
   refine sy 13 25 rfl rfl ?_; try simp only [Act.put, sA, s0, s1]
   refine sy 14 26 rfl rfl ?_; try simp only [Act.put, sA, s0, s1]
   refine sy 15 27 rfl rfl ?_ (hy := by (intro w hSw; (try dsimp only at hSw); have qk := ZK.out _ hSw; go_simp; try with_reducible rfl))
   try simp only [Act.put, sA, s0, s1]
   refine wpAnyH_ready (rs := [16]) (by kernel_rfl) (by simp) ?_; refine AllReadyH.cons rfl (fun K hK => ?_) AllReadyH.nil; replace hK := Lib.hid hK; go_simp
   refine (LS.out _).mono ?_
   rintro r w5 ⟨rfl, hc⟩
   rw [LV.out]
   have C5 := Lib.hid (hHeld.trans hc)
   clear hc hHeld
   refine hK.out _ _ C5.out (fun hHeld => ?_)
   clear hK K; try simp only [Act.put, sA, s0, s1]
   refine sy 17 29 rfl rfl ?_; try simp only [Act.put, sA, s0, s1]
   refine sy 18 30 rfl rfl ?_; try simp only [Act.put, sA, s0, s1]
   refine sy 19 31 rfl rfl ?_; try simp only [Act.put, sA, s0, s1]
   refine wpAnyH_done (by kernel_rfl) ?_ _; clear hHeld SHC ZK ZJ LS
   have q5 := (C5.out.at_ E0.out (by simp))
   have f5 := free_of q5 0
   have z5 := cell_of q5 0
   simp only [List.getElem?_toArray, List.getElem?_cons_zero] at z5
   have Q5 := Lib.hid q5
   clear q5
   gi_wp2
   refine ⟨?_, rfl, by simpa using heap_setCell_same _ r0 0 _ _ (.int .i64 2) Q5.out, NO.out, CW.out.trans' (C5.out.mono (S' := [r0]) (by simp)) (fun z hz => .inr (by have := RR.out; simp at hz; omega)) |>.setCell (p := ⟨r0, 0, none⟩) (.inr (by have := RR.out; show w.heap.size ≤ r0; omega)) _⟩
   exact KeepsTwo.of_chg ((C5.out.mono (S' := [r0]) (by simp)).setCell (p := ⟨r0, 0, none⟩) (.inl (by simp)) _) (fun z hz => by have := RR.out; simp at hz; omega) HSZ.out
  have LV := Lib.hid hlv
  have NX : Hid (StOk0 (es.take m)) := Lib.hid (run_step OK0.out HRUN.out EB.out SHK.out (.inr ⟨RJ.out, EA.out, hlv⟩))
  clear hlv
  gi_wp2
  refine wpIn_round_held (S := fun w' => Chg [] W w') (by kernel_rfl) (by kernel_rfl) (by rintro ⟨a9, w9, h9⟩; exact h9) (Chg.refl [] W).drew (fun hHeld => ?_)
  refine sy 0 12 rfl rfl ?_; try simp only [Act.put, sA, s0, s1]
  refine wpAnyH_ready (rs := [1]) (by kernel_rfl) (by simp) ?_; refine AllReadyH.cons rfl (fun K hK => ?_) AllReadyH.nil; replace hK := Lib.hid hK; go_simp
  refine (SHC.out _ hHeld).mono ?_
  rintro r w5 ⟨rfl, hc⟩
  rw [EV.out]
  have C5 := Lib.hid (hHeld.trans hc)
  clear hc hHeld
  refine hK.out _ _ C5.out (fun hHeld => ?_)
  clear hK K; try simp only [Act.put, sA, s0, s1]
  refine sy 2 14 rfl rfl ?_; try simp only [Act.put, sA, s0, s1]
  refine sy 3 15 rfl rfl ?_; try simp only [Act.put, sA, s0, s1]
  refine sy 4 16 rfl rfl ?_ (hy := by (intro w hSw; (try dsimp only at hSw); have q1 := c1H.out _ hSw; go_simp; try with_reducible rfl))
  try simp only [Act.put, sA, s0, s1]
  refine sy 5 17 rfl rfl ?_; try simp only [Act.put, sA, s0, s1]
  refine sy 6 18 rfl rfl ?_; try simp only [Act.put, sA, s0, s1]
  refine sy 7 19 rfl rfl ?_; try simp only [Act.put, sA, s0, s1]
  refine sy 8 20 rfl rfl ?_ (hy := by (intro w hSw; (try dsimp only at hSw); have q1 := c1H.out _ hSw; go_simp; try with_reducible rfl))
  try simp only [Act.put, sA, s0, s1]
  refine sy 9 21 rfl rfl ?_; try simp only [Act.put, sA, s0, s1]
  refine sy 10 22 rfl rfl ?_; try simp only [Act.put, sA, s0, s1]
  refine sy 11 23 rfl rfl ?_ (hy := by (intro w hSw; (try dsimp only at hSw); have qj := ZJ.out _ hSw; go_simp; try with_reducible rfl))
  try simp only [Act.put, sA, s0, s1]
  refine sy 12 24 rfl rfl ?_; try simp only [Act.put, sA, s0, s1]
  refine sy 13 25 rfl rfl ?_; try simp only [Act.put, sA, s0, s1]
  refine sy 14 26 rfl rfl ?_; try simp only [Act.put, sA, s0, s1]
  refine sy 15 27 rfl rfl ?_ (hy := by (intro w hSw; (try dsimp only at hSw); have qk := ZK.out _ hSw; go_simp; try with_reducible rfl))
  try simp only [Act.put, sA, s0, s1]
  refine wpAnyH_ready (rs := [16]) (by kernel_rfl) (by simp) ?_; refine AllReadyH.cons rfl (fun K hK => ?_) AllReadyH.nil; replace hK := Lib.hid hK; go_simp
  refine (LS.out _).mono ?_
  rintro r w5 ⟨rfl, hc⟩
  rw [LV.out]
  have C5 := Lib.hid (hHeld.trans hc)
  clear hc hHeld
  refine hK.out _ _ C5.out (fun hHeld => ?_)
  clear hK K; try simp only [Act.put, sA, s0, s1]
  refine sy 17 29 rfl rfl ?_; try simp only [Act.put, sA, s0, s1]
  refine sy 18 30 rfl rfl ?_; try simp only [Act.put, sA, s0, s1]
  refine sy 19 31 rfl rfl ?_; try simp only [Act.put, sA, s0, s1]
  refine wpAnyH_done (by kernel_rfl) ?_ _; clear hHeld ZJ LS; have CA := C5
  have OWN5 := Lib.hid (ownsMap_chg OW.out C5.out (by simp))
  have HR5 : Hid (∀ w', Chg [r2] w5 w' → ∀ q x, (segL xs k2 m)[q]? = some x → _) := Lib.hid (fun w' hc q x hx => evCells (runA_some g o k2 ▸ ((RA.out.chg C5.out (by simp)).chg hc (fun a ha => by cases ha; have := BLK.out.resolve_left (by intro z; rw [z] at hx; simp [segL] at hx) _ rfl; have := this.2; simp at this ⊢; omega)).run KM.out.1 KM.out.2) hx)
  clear SHC ZK c1H OW
  gi_wp2
  gi_loopw [34] (fun v34 wq => ∃ (q : Nat), q ≤ m - k2 ∧ v34 = .int .i64 (q : Int) ∧ Hid (wq.ownsMap Tryz.prog 24 (unitElem (H := Unit)) r2 (k2 + q) (dotSetE (es.take (k2 + q)))) ∧ Hid (Chg [r2] w5 wq)) (fun v34 _ => m - k2 - (RowKit.intOf v34).toNat)
  case atStart => exact ⟨0, Nat.zero_le _, rfl, OWN5, Lib.hid (Chg.refl _ _)⟩
  case round =>
   obtain ⟨q, hq, rfl, OQ, CQ⟩ := hrel
   have q0 : (0 : Int) ≤ (q : Int) := by omega
   by_cases hlt : q < m - k2
   ·
    have q1 : (q : Int) < ((m - k2 : Nat) : Int) := by omega
    have q3 : IntKind.i64.wrap ((q : Int) + 1) = (q : Int) + 1 := IntWalk.i64_in _ (by have := KM.out; have := HN.out; omega)
    obtain ⟨x, e, ex, ee, rx⟩ := HX.out.at_ (show k2 + q < xs.length by have := KM.out; omega)
    obtain ⟨z0, z1, z2, z3, z4, z5, z6⟩ := HR5.out wr CQ.out q x (by rw [seg_get xs (by omega)]; exact ex)
    have KEY := Lib.hid (keyDot e.n e.s (dotFine (SHK.out.1 e (List.mem_of_getElem? (show (segL es k2 m)[q]? = some e by rw [seg_get es (by omega)]; exact ee)))).1 (dotFine (SHK.out.1 e (List.mem_of_getElem? (show (segL es k2 m)[q]? = some e by rw [seg_get es (by omega)]; exact ee)))).2)
    have NEXT : Hid ((dotSetE (es.take (k2 + q))).put (dotLit e) (.agg []) = dotSetE (es.take (k2 + (q + 1)))) := Lib.hid (by rw [← dotSetE_snoc, show k2 + (q + 1) = (k2 + q) + 1 by omega, List.take_add_one, ee]; rfl)
    have EN : Hid (x.n = e.n ∧ x.s = e.s) := Lib.hid ⟨rx.n, rx.s⟩
    obtain ⟨w6, hw6, c6, b6⟩ := news1 wr (.cells #[.int .i64 x.n, .int .i64 x.s, .string x.p, .int .i64 x.k, .int .i64 x.m, .slice x.A x.l x.c, .slice x.B x.bl x.bc] 30)
    have W6 := Lib.hid hw6
    have y0 := cell_of b6 0
    have y1 := cell_of b6 1
    simp only [List.getElem?_toArray, List.getElem?_cons_succ, List.getElem?_cons_zero] at y0 y1
    rw [EN.out.1] at y0
    rw [EN.out.2] at y1
    have m3 : w6.cell? ⟨r3, 0, none⟩ = some (.map (some r2)) := by
     have p := c6.at_ (CQ.out.at_ (C5.out.at_ E3.out (by simp)) (by have := RR.out; simp; omega)) (by simp)
     simpa using cell_of p 0
    have OW6 := Lib.hid (ownsMap_chg OQ.out c6 (by simp))
    have C6 := Lib.hid (CQ.out.trans (c6.mono (S' := [r2]) (by simp)))
    clear ex ee rx hw6 c6 b6 OQ
    gi_upto_region 10 with fail
    rw [← W6.out]
    generalize wr.heap.size = g6 at *
    clear W6 z0 z1 z2 z3 z4 z5 z6
    gi_wp2_with (gi_at_mapUpdate; refine wpListIn_mapUpdate_own _ rfl _ _ _ 76 rfl 24 80 law_dot Tryz.underlying76 (unitElem (H := Unit)) r2 (k2 + q) _ rfl OW6.out (by have := KM.out; have := HN.out; unfold maxLen; omega) _ _ _ rfl rfl KEY.out (.agg []) [] unitElem_mk ?_; intro w7 own7 grow7)
    have OW7 : Hid (w7.ownsMap Tryz.prog 24 (unitElem (H := Unit)) r2 (k2 + (q + 1)) (dotSetE (es.take (k2 + (q + 1))))) := Lib.hid (by rw [← NEXT.out]; exact own7)
    have C7 := Lib.hid (C6.out.grown grow7 (fun i hi => by simp at hi; subst hi; exact .inl (by simp)))
    clear own7 grow7 y0 y1 m3
    gi_wp2
    go_roundw
    case rel => exact ⟨q + 1, by omega, by go_num, OW7, C7⟩
    case measure => simp [RowKit.intOf]; omega
   ·
    obtain rfl : q = m - k2 := by omega
    have q1 : ¬ ((m - k2 : Nat) : Int) < ((m - k2 : Nat) : Int) := by omega
    have q5 := CQ.out.at_ (C5.out.at_ E1.out (by simp)) (by have := RR.out; simp; omega)
    have f5 := free_of q5 0
    have z5 := cell_of q5 0
    simp only [List.getElem?_toArray, List.getElem?_cons_zero] at z5
    have Q5 := Lib.hid q5
    clear q5
    have OQ2 : Hid (wr.ownsMap Tryz.prog 24 (unitElem (H := Unit)) r2 m (dotSetE (es.take m))) := Lib.hid (by have q := OQ.out; rwa [show k2 + (m - k2) = m by have := KM.out; omega] at q)
    gi_wp2
    have CST := Lib.hid ((Chg.refl [r1] wr).setCell (p := ⟨r1, 0, none⟩) (.inl (by simp)) (.slice (some ⟨g, o + k2 * 7, none⟩) (m - k2) (m - k2)))
    have CALL := Lib.hid (((C5.out.mono (S' := [r0, r1, r2]) (by simp)).trans (CQ.out.mono (by simp))).trans (CST.out.mono (by simp)))
    refine ⟨KeepsTwo.of_chg CALL.out (fun z hz => by have := RR.out; simp at hz; omega) HSZ.out, Kpt.of_chg CALL.out HZ.out, ⟨CST.out.at_ (CQ.out.at_ (C5.out.at_ E0.out (by simp)) (by have := RR.out; simp; omega)) (by have := RR.out; simp; omega), ?_, CST.out.at_ (CQ.out.at_ (C5.out.at_ E3.out (by simp)) (by have := RR.out; simp; omega)) (by have := RR.out; simp; omega)⟩, ?_, ⟨?_, ?_⟩, ?_, Nat.le_trans HZ.out CALL.out.size⟩
    ·
     rw [aheadV_snoc, runA_some]
     simpa using heap_setCell_same wr r1 0 _ _ _ Q5.out
    ·
     rw [endRun_snoc]
     exact ownsMap_chg OQ2.out CST.out (by have := RR.out; simp; omega)
    ·
     rw [endRun_snoc]
     exact NX.out
    ·
     intro x1 x2 hx
     have e : (pre ++ [(k2, m)]).getLast? = some (k2, m) := by simp
     rw [e] at hx
     cases hx
     exact HRUN.out
    ·
     exact CW.out.trans' CALL.out (fun z hz => .inr (by have := RR.out; simp at hz; omega))
 case done =>
  rintro D zs W hD hS ⟨⟨e0, e1, e3⟩, ow, ⟨ok0, _⟩, hC, hz⟩ hK
  rw [hS, List.take_length] at ow ok0
  have rr := RR.out
  obtain ⟨hle, hiff⟩ := dotSetE_ok ok0
  have XL := HX.out.1
  obtain ⟨sz, hsz⟩ : ∃ sz, Go.Maps.size (dotSetE es) = sz := ⟨_, rfl⟩
  rw [hsz] at hle hiff
  have ST : Hid (stE es = if sz < xs.length then 2 else 0) := Lib.hid (by
   by_cases q : sz < xs.length
   ·
    rw [if_pos q]
    unfold stE
    rw [if_neg]
    intro so
    exact (hiff.2 (stOk_iff.1 so).2) (by omega)
   ·
    rw [if_neg q]
    exact stE_zero.2 (stOk_iff.2 ⟨ok0, hiff.1 (by omega)⟩))
  have E0 := Lib.hid e0
  have HCW := Lib.hid hC
  have OWH := Lib.hid ow
  have z0 := cell_of e0 0
  have f0 := free_of e0 0
  have z3 := cell_of e3 0
  simp only [List.getElem?_toArray, List.getElem?_cons_zero] at z0 z3
  have ne : D ≠ r0 := by omega
  have dw : w.heap.size ≤ D := by omega
  have NE := Lib.hid (And.intro ne dw)
  have KD := Lib.hid hK
  have SZH := Lib.hid hsz
  clear hD hS e0 e1 e3 ow ok0 hC hz hK rr hle hiff XL hsz ne dw
  have FINV : ∀ v : Int, stE es = v → ∀ o, (((W.setCell ⟨r0, 0, none⟩ (.int .i64 v)).putObj D o).cell? ⟨r0, 0, none⟩ = some (.int .i64 v)) := fun v _ o => by
   have p := cell_of ((World.putObj_heap_other (o := o) (fun e => NE.out.1 e.symm)).trans (heap_setCell_same W r0 0 _ _ (.int .i64 v) E0.out)) 0
   simpa using p
  have FV := Lib.hid FINV
  clear FINV
  by_cases q : sz < xs.length
  ·
   have q1 : (sz : Int) < (xs.length : Int) := by omega
   have EV : Hid (stE es = 2) := Lib.hid (by rw [ST.out, if_pos q])
   clear ST
   gi_wp2_with (gi_at_len; refine wpListIn_len_own _ rfl _ _ rfl 24 80 Tryz.underlying76 _ r2 _ _ rfl OWH.out ?_; rw [SZH.out])
   refine ⟨by simp, .inl ⟨_, _, rfl, run_takeDeferred ((heap_setCell_other W ⟨r0, 0, none⟩ D _ NE.out.1).trans KD.out), ?_⟩⟩
   exact ⟨_, stcheck_result _ _ r0 _ rfl (FV.out 2 EV.out _), by rw [EV.out], (HCW.out.setCell (p := ⟨r0, 0, none⟩) (.inr (Nat.le_of_eq RR.out.1)) (.int .i64 2)).putl NE.out.2⟩
  ·
   have q1 : ¬ (sz : Int) < (xs.length : Int) := by omega
   have EV : Hid (stE es = 0) := Lib.hid (by rw [ST.out, if_neg q])
   clear ST
   gi_wp2_with (gi_at_len; refine wpListIn_len_own _ rfl _ _ rfl 24 80 Tryz.underlying76 _ r2 _ _ rfl OWH.out ?_; rw [SZH.out])
   refine ⟨by simp, .inl ⟨_, _, rfl, run_takeDeferred ((heap_setCell_other W ⟨r0, 0, none⟩ D _ NE.out.1).trans KD.out), ?_⟩⟩
   exact ⟨_, stcheck_result _ _ r0 _ rfl (FV.out 0 EV.out _), by rw [EV.out], (HCW.out.setCell (p := ⟨r0, 0, none⟩) (.inr (Nat.le_of_eq RR.out.1)) (.int .i64 0)).putl NE.out.2⟩
 case stop =>
  rintro D c zs W hD _ ⟨rfl, e0, no, hC⟩ hK
  have rr := RR.out
  have EV : Hid (stE es = 2) := Lib.hid ((stE_two es).resolve_left (fun q => no (stE_zero.1 q)))
  have E0 := Lib.hid e0
  have HCW := Lib.hid hC
  have z0 := cell_of e0 0
  simp only [List.getElem?_toArray, List.getElem?_cons_zero] at z0
  have NE := Lib.hid (And.intro (show D ≠ r0 by omega) (show w.heap.size ≤ D by omega))
  have KD := Lib.hid hK
  clear hD e0 no hC hK rr
  gi_wp2
  have Z : ∀ o, (W.putObj D o).cell? ⟨r0, 0, none⟩ = some (.int .i64 2) := fun o => by
   have p := cell_of ((World.putObj_heap_other (o := o) (fun e => NE.out.1 e.symm)).trans E0.out) 0
   simpa using p
  refine ⟨by simp, .inl ⟨_, _, rfl, run_takeDeferred KD.out, ?_⟩⟩
  exact ⟨_, stcheck_result _ _ r0 _ rfl (Z _), by rw [EV.out], HCW.out.putl NE.out.2⟩
end
section
open Go.RowKit Go.Lib


theorem putS_in {s : List EvP} {e x : EvP} (h : x ∈ putS s e) : x = e ∨ x ∈ s := by
 unfold putS at h
 rcases List.mem_append.1 h with q | q
 ·
  exact .inr (List.mem_filter.1 q).1
 ·
  rcases List.mem_append.1 q with q | q
  ·
   rcases putE_in q with r | r
   ·
    exact .inr (mem_atS.1 r).1
   ·
    exact .inl r.1
  ·
   exact .inr (List.mem_filter.1 q).1
set_option maxRecDepth 100000 in
set_option maxHeartbeats 16000000 in
theorem stput_any (w : World) (A : Option Addr) (c : Nat) (xs : List EvT) (es : List EvP) (y : EvT) (f : EvP) (h : RdK evTy w A xs.length xs) (hc : xs.length ≤ c ∧ c ≤ maxLen) (ho : xs = [] ∨ ∀ a, A = some a → a.block < w.heap.size) (hx : EvsR w xs es) (hn : xs.length ≤ 1000) (hs : ∀ e ∈ es, EvSm e ∧ e.q.length ≤ 100000) (hy : EvR w y f) (ht : EvSm f ∧ f.q.length ≤ 100000) :
  Calls Tryz.prog 11 #[.slice A xs.length c, .agg #[.int .i64 y.n, .int .i64 y.s, .string y.p, .int .i64 y.k, .int .i64 y.m, .slice y.A y.l y.c, .slice y.B y.bl y.bc]] w fun r w' => ∃ (A' : Option Addr) (c' : Nat) (zs : List EvT), r = .returned (.tuple #[.slice A' zs.length c', .int .i64 (stPut es f).1]) ∧ EsF w' w.heap.size w'.heap.size A' c' zs (stPut es f).2 ∧ Chg [] w w' := by
 obtain ⟨R, hR⟩ : ∃ R, stPut es f = R := ⟨_, rfl⟩
 rw [hR]
 have HR := Lib.hid hR
 obtain ⟨w1, hw1, c1, b1⟩ := news1 w (.cells #[.int .i64 y.n, .int .i64 y.s, .string y.p, .int .i64 y.k, .int .i64 y.m, .slice y.A y.l y.c, .slice y.B y.bl y.bc] 30)
 have W1 := Lib.hid hw1
 have C1 := Lib.hid c1
 have B1 := Lib.hid b1
 have HA := Lib.hid (h.chg c1 (by simp))
 have HX := Lib.hid (hx.chg c1)
 have HC := Lib.hid hc
 have HN := Lib.hid hn
 have HS := Lib.hid hs
 have HY := Lib.hid (hy.chg c1)
 have HT := Lib.hid ht
 have CK := Lib.hid (stcheck_any w1 A c xs es (h.chg c1 (by simp)) hc.1 (ho.imp id (fun q a ha => Nat.lt_of_lt_of_le (q a ha) c1.size)) (hx.chg c1) (by omega) (fun e he => (hs e he).1))
 clear hw1 c1 b1 h hx hc hn hs hy ht ho hR
 go_enter Tryz.func11, Tryz.ntmps11
 go_upto_region 1 with fail
 rw [← W1.out]
 obtain ⟨g1, hg1⟩ : ∃ g, w.heap.size = g := ⟨_, rfl⟩
 rw [hg1] at B1 ⊢
 clear W1; go_wp2_with fail
 refine CK.out.mono ?_
 rintro r w2 ⟨rfl, hc⟩
 have C2 := Lib.hid hc
 clear hc CK
 have NO2 : Hid (¬ (StOk es ∧ chkEv f = 0) → R = (2, [])) := Lib.hid (fun q => by rw [← HR.out]; unfold stPut; rw [if_pos q])
 rcases stE_two es with e1 | e1
 rotate_left
 ·
  have ER := NO2.out (fun q => by rw [stE_zero.2 q.1] at e1; cases e1)
  subst ER
  rw [e1]
  clear e1 NO2 HR; go_wp2; go_ret2
  exact ⟨none, 0, [], rfl, EsF.nil _ _ _, C1.out.trans C2.out⟩
 have SA := Lib.hid (stE_zero.1 e1)
 rw [e1]
 clear e1
 have CELLY : Hid (∀ w', Chg [] w1 w' → (w'.cell? ⟨g1, 0, none⟩ = some (.int .i64 y.n) ∧ w'.cell? ⟨g1, 1, none⟩ = some (.int .i64 y.s) ∧ w'.cell? ⟨g1, 2, none⟩ = some (.string y.p) ∧ w'.cell? ⟨g1, 3, none⟩ = some (.int .i64 y.k) ∧ w'.cell? ⟨g1, 4, none⟩ = some (.int .i64 y.m) ∧ w'.cell? ⟨g1, 5, none⟩ = some (.slice y.A y.l y.c) ∧ w'.cell? ⟨g1, 6, none⟩ = some (.slice y.B y.bl y.bc))) := Lib.hid (fun w' hc => by
  have b := hc.at_ B1.out (by simp)
  exact ⟨cell_of b 0, cell_of b 1, cell_of b 2, cell_of b 3, cell_of b 4, cell_of b 5, cell_of b 6⟩)
 obtain ⟨y0, y1, y2, y3, y4, y5, y6⟩ := CELLY.out w2 C2.out
 go_wp2_with fail; clear y0 y1 y2 y3 y4 y5 y6
 refine (evcheck_any w2 y f (HY.out.chg C2.out) HT.out.1).mono ?_
 rintro r w3 ⟨rfl, hc⟩
 have C3 := Lib.hid (C2.out.trans hc)
 clear hc C2
 rcases chkEv_two f with e1 | e1
 rotate_left
 ·
  have ER := NO2.out (fun q => by rw [q.2] at e1; cases e1)
  subst ER
  rw [e1]
  clear e1 NO2 HR; go_wp2; go_ret2
  exact ⟨none, 0, [], rfl, EsF.nil _ _ _, C1.out.trans C3.out⟩
 have FK := Lib.hid e1
 rw [e1]
 clear e1 NO2
 obtain ⟨y0, y1, y2, y3, y4, y5, y6⟩ := CELLY.out w3 C3.out
 go_wp2_with fail; clear y0 y1 y2 y3 y4 y5 y6
 refine (stputf_any w3 A c xs es y f (HA.out.chg C3.out (by simp)) HC.out (HX.out.chg C3.out) HN.out HS.out (HY.out.chg C3.out) HT.out SA.out.1 (stOk_at SA.out f.p) FK.out).mono ?_
 rintro r w4 ⟨A4, c4, zs, rfl, hcp, hr, he, hc⟩
 have R4 := Lib.hid hr
 have C4 := Lib.hid (C3.out.trans hc)
 clear hcp hr hc
 rcases hel : elseE es f with _ | _
 ·
  have ER : R = (0, putS es f) := by
   rw [← HR.out]
   exact stPut_yes SA.out FK.out hel
  rw [hel, if_neg (by decide : ¬ (false = true))] at he
  rw [if_neg (by decide : ¬ (false = true))]
  have E4 : Hid (EvsR w4 zs (putS es f)) := Lib.hid (by simpa using he)
  subst ER; clear he hel HR
  have FE := Lib.hid (frevents_any w4 A4 c4 zs (putS es f) R4.out E4.out (by have a := E4.out.1; have b := elseE_len es f; have d := HX.out.1; have := HN.out; omega) (fun e he => by
   rcases putS_in he with q | q
   ·
    rw [q]; exact ⟨HT.out.1.2.1, HT.out.2⟩
   ·
    exact ⟨(HS.out e q).1.2.1, (HS.out e q).2⟩))
  go_wp2_with fail
  refine FE.out.mono ?_
  rintro r w5 ⟨A5, c5, us, rfl, hl, he, hc⟩
  have P5 := Lib.hid (And.intro (he.low (lo' := g1) (by rw [← hg1]; exact (C1.out.trans C4.out).size)) (C1.out.trans (C4.out.trans hc)))
  clear hl he hc FE; go_wp2; go_ret2
  exact ⟨A5, c5, us, rfl, P5.out.1, P5.out.2⟩
 ·
  have ER : R = (7, []) := by
   rw [← HR.out]
   unfold stPut
   rw [if_neg (fun q => q ⟨SA.out, FK.out⟩), if_pos hel]
  rw [hel, if_pos (rfl : true = true)] at he
  rw [if_pos (rfl : true = true)]
  have E4 : Hid (EvsR w4 zs []) := Lib.hid (by simpa using he)
  subst ER; clear he hel HR
  have FE := Lib.hid (frevents_any w4 A4 c4 zs [] R4.out E4.out (by have a : zs.length = 0 := E4.out.1; omega) (by simp))
  go_wp2_with fail
  refine FE.out.mono ?_
  rintro r w5 ⟨A5, c5, us, rfl, hl, he, hc⟩
  have P5 := Lib.hid (And.intro (he.low (lo' := g1) (by rw [← hg1]; exact (C1.out.trans C4.out).size)) (C1.out.trans (C4.out.trans hc)))
  clear hl he hc FE; go_wp2; go_ret2
  exact ⟨A5, c5, us, rfl, P5.out.1, P5.out.2⟩
theorem stFold_len : ∀ (l s : List EvP), (stFold s l).2.length ≤ s.length + l.length
 | [], s => by simp [stFold]
 | e :: l, s => by
  unfold stFold
  split
  ·
   simp
  ·
   have a := stFold_len l (putS s e)
   have b := elseE_len s e
   simp only [List.length_cons]
   omega
theorem stFold_in : ∀ (l s : List EvP) (x : EvP), x ∈ (stFold s l).2 → x ∈ s ∨ x ∈ l
 | [], s, x, h => by simpa [stFold] using h
 | e :: l, s, x, h => by
  unfold stFold at h
  split at h
  ·
   cases h
  ·
   rcases stFold_in l (putS s e) x h with q | q
   ·
    rcases putS_in q with r | r
    ·
     exact .inr (by simp [r])
    ·
     exact .inl r
   ·
    exact .inr (by simp [q])
set_option maxRecDepth 100000 in
set_option maxHeartbeats 16000000 in
theorem stjoin_any (w : World) (A B : Option Addr) (c d : Nat) (xs ys : List EvT) (es fs : List EvP) (h : RdK evTy w A xs.length xs) (h' : RdK evTy w B ys.length ys) (hc : (xs.length ≤ c ∧ c ≤ maxLen) ∧ ys.length ≤ d) (ho : (xs = [] ∨ ∀ a, A = some a → a.block < w.heap.size) ∧ (ys = [] ∨ ∀ a, B = some a → a.block < w.heap.size)) (hx : EvsR w xs es) (hy : EvsR w ys fs) (hn : xs.length + ys.length ≤ 1000) (hs : ∀ e ∈ es, EvSm e ∧ e.q.length ≤ 100000) (ht : ∀ e ∈ fs, EvSm e ∧ e.q.length ≤ 100000) :
  Calls Tryz.prog 13 #[.slice A xs.length c, .slice B ys.length d] w fun r w' => ∃ (A' : Option Addr) (c' : Nat) (zs : List EvT), r = .returned (.tuple #[.slice A' zs.length c', .int .i64 (stJoin es fs).1]) ∧ EsF w' w.heap.size w'.heap.size A' c' zs (stJoin es fs).2 ∧ Chg [] w w' := by
 obtain ⟨R, hR⟩ : ∃ R, stJoin es fs = R := ⟨_, rfl⟩
 rw [hR]
 have HR := Lib.hid hR
 have HA := Lib.hid h
 have HB := Lib.hid h'
 have HC := Lib.hid hc
 have HO := Lib.hid ho
 have HX := Lib.hid hx
 have HY := Lib.hid hy
 have HN := Lib.hid hn
 have HS := Lib.hid hs
 have HT := Lib.hid ht
 clear h h' hc ho hx hy hn hs ht hR
 have NO2 : Hid (¬ (StOk es ∧ StOk fs) → R = (2, [])) := Lib.hid (fun q => by rw [← HR.out]; unfold stJoin; rw [if_neg q])
 go_enter Tryz.func13, Tryz.ntmps13
 go_wp2_with fail
 refine (stcheck_any w A c xs es HA.out HC.out.1.1 HO.out.1 HX.out (by have := HN.out; omega) (fun e he => (HS.out e he).1)).mono ?_
 rintro r w1 ⟨rfl, hc⟩
 have C1 := Lib.hid hc
 clear hc
 rcases stE_two es with e1 | e1
 rotate_left
 ·
  have ER := NO2.out (fun q => by rw [stE_zero.2 q.1] at e1; cases e1)
  subst ER
  rw [e1]
  clear e1 NO2 HR; go_wp2; go_ret2
  exact ⟨none, 0, [], rfl, EsF.nil _ _ _, C1.out⟩
 have SA := Lib.hid (stE_zero.1 e1)
 rw [e1]
 clear e1; go_wp2_with fail
 refine (stcheck_any w1 B d ys fs (HB.out.chg C1.out (by simp)) HC.out.2 (HO.out.2.imp id (fun q a ha => Nat.lt_of_lt_of_le (q a ha) C1.out.size)) (HY.out.chg C1.out) (by have := HN.out; omega) (fun e he => (HT.out e he).1)).mono ?_
 rintro r w2 ⟨rfl, hc⟩
 have C2 := Lib.hid (C1.out.trans hc)
 clear hc C1
 rcases stE_two fs with e1 | e1
 rotate_left
 ·
  have ER := NO2.out (fun q => by rw [stE_zero.2 q.2] at e1; cases e1)
  subst ER
  rw [e1]
  clear e1 NO2 HR; go_wp2; go_ret2
  exact ⟨none, 0, [], rfl, EsF.nil _ _ _, C2.out⟩
 have SB := Lib.hid (stE_zero.1 e1)
 have RF : Hid (R = stFold es fs) := Lib.hid (by rw [← HR.out]; unfold stJoin; rw [if_pos ⟨SA.out, SB.out⟩])
 rw [e1]
 clear e1 NO2 HR; go_wp2
 go_loopw [6, 7, 21] (fun v6 v7 v21 wr => ∃ (k : Nat) (A1 : Option Addr) (d1 : Nat) (zs : List EvT) (cs : List EvP) (er : Int), k ≤ ys.length ∧ v21 = .int .i64 (k : Int) ∧ v6 = .slice A1 zs.length d1 ∧ v7 = .int .i64 er ∧ Hid (R = stFold cs (fs.drop k) ∧ StOk cs ∧ cs.length ≤ es.length + k ∧ ∀ e ∈ cs, EvSm e ∧ e.q.length ≤ 100000) ∧ Hid (zs.length ≤ d1 ∧ d1 ≤ maxLen) ∧ Hid (RdK evTy wr A1 zs.length zs) ∧ Hid (EvsR wr zs cs) ∧ Hid (Chg [] w wr)) (fun _ _ v21 _ => ys.length - (RowKit.intOf v21).toNat)
 case atStart => exact ⟨0, A, c, xs, es, 0, Nat.zero_le _, rfl, rfl, rfl, Lib.hid ⟨RF.out, SA.out, by omega, HS.out⟩, Lib.hid HC.out.1, Lib.hid (HA.out.chg C2.out (by simp)), Lib.hid (HX.out.chg C2.out), C2⟩
 case round =>
  obtain ⟨k, A1, d1, zs, cs, er, hk, rfl, rfl, rfl, CS, CP, RZ, EZ, PC⟩ := hrel
  have j0 : (0 : Int) ≤ (k : Int) := by omega
  by_cases hlt : k < ys.length
  ·
   have j1 : (k : Int) < (ys.length : Int) := by omega
   have j3 : IntKind.i64.wrap ((k : Int) + 1) = (k : Int) + 1 := IntWalk.i64_in _ (by have := HN.out; omega)
   obtain ⟨g3, o3, eA, _⟩ := HB.out.line (by omega)
   subst eA
   obtain ⟨x, e, ex, ee, rx⟩ := HY.out.at_ hlt
   obtain ⟨z0, z1, z2, z3, z4, z5, z6⟩ := evCells (HB.out.chg PC.out (by simp)) ex
   have EE := Lib.hid ee
   have RX1 := Lib.hid rx
   have EM := Lib.hid (List.mem_of_getElem? ee)
   clear ex ee rx
   obtain ⟨w5, hw5, c5, b5⟩ := news1 wr (.cells #[.int .i64 x.n, .int .i64 x.s, .string x.p, .int .i64 x.k, .int .i64 x.m, .slice x.A x.l x.c, .slice x.B x.bl x.bc] 30)
   have W5 := Lib.hid hw5
   have CALL := Lib.hid (stputf_any w5 A1 d1 zs cs x e (RZ.out.chg c5 (by simp)) CP.out (EZ.out.chg c5) (by have a := EZ.out.1; have b := CS.out.2.2.1; have d := HX.out.1; have := HN.out; omega) CS.out.2.2.2 (RX1.out.chg (PC.out.trans c5)) (HT.out e EM.out) CS.out.2.1.1 (stOk_at CS.out.2.1 e.p) (stOk_chk SB.out e EM.out))
   replace PC := Lib.hid (PC.out.trans c5)
   have y0 := cell_of b5 0
   have y1 := cell_of b5 1
   have y2 := cell_of b5 2
   have y3 := cell_of b5 3
   have y4 := cell_of b5 4
   have y5 := cell_of b5 5
   have y6 := cell_of b5 6
   simp only [List.getElem?_toArray, List.getElem?_cons_succ, List.getElem?_cons_zero] at y0 y1 y2 y3 y4 y5 y6
   have DK : Hid (fs.drop k = e :: fs.drop (k + 1)) := Lib.hid (by
    obtain ⟨l, q⟩ := List.getElem?_eq_some_iff.1 EE.out
    rw [List.drop_eq_getElem_cons l, q])
   clear hw5 c5 b5
   go_upto_region 7 with fail
   rw [← W5.out]
   generalize wr.heap.size = g6 at *
   clear W5 z0 z1 z2 z3 z4 z5 z6; go_wp2_with fail; clear y0 y1 y2 y3 y4 y5 y6
   refine CALL.out.mono ?_
   rintro r w7 ⟨A7, c7, us, rfl, hcp, hr, he, hc⟩
   replace PC := Lib.hid (PC.out.trans hc)
   have CP7 := Lib.hid hcp
   have R7 := Lib.hid hr
   clear hcp hr hc CALL RZ EZ
   rcases hel : elseE cs e with _ | _
   ·
    have CS1 : Hid (R = stFold (putS cs e) (fs.drop (k + 1)) ∧ StOk (putS cs e) ∧ (putS cs e).length ≤ es.length + (k + 1) ∧ ∀ x ∈ putS cs e, EvSm x ∧ x.q.length ≤ 100000) := Lib.hid ⟨by
      have q := CS.out.1
      rw [DK.out] at q
      unfold stFold at q
      rwa [hel, if_neg (by decide)] at q, stOk_put CS.out.2.1 (stOk_chk SB.out e EM.out) hel, by have a := elseE_len cs e; have b := CS.out.2.2.1; omega, fun x hx => by
      rcases putS_in hx with q | q
      ·
       rw [q]; exact HT.out e EM.out
      ·
       exact CS.out.2.2.2 x q⟩
    rw [hel, if_neg (by decide : ¬ (false = true))] at he
    rw [if_neg (by decide : ¬ (false = true))]
    have E7 : Hid (EvsR w7 us (putS cs e)) := Lib.hid (by simpa using he)
    clear he hel; go_wp2; go_round
    case rel => exact ⟨k + 1, A7, c7, us, putS cs e, 0, by omega, by go_num, rfl, rfl, CS1, CP7, R7, E7, PC⟩
    case measure => simp [RowKit.intOf]; omega
   ·
    have ER : R = (7, []) := by
     have q := CS.out.1
     rw [DK.out] at q
     unfold stFold at q
     rwa [if_pos hel] at q
    rw [if_pos (rfl : true = true)]
    clear he hel CS RF; subst ER; go_wp2; go_ret2
    exact ⟨none, 0, [], rfl, EsF.nil _ _ _, PC.out⟩
  ·
   obtain rfl : k = ys.length := by omega
   have j1 : ¬ (ys.length : Int) < (ys.length : Int) := by omega
   have ER : R = (0, cs) := by
    have q := CS.out.1
    rw [HY.out.1, List.drop_length] at q
    exact q
   have FE := Lib.hid (frevents_any wr A1 d1 zs cs RZ.out EZ.out (by have a := EZ.out.1; have b := CS.out.2.2.1; have d := HX.out.1; have := HN.out; omega) (fun e he => ⟨(CS.out.2.2.2 e he).1.2.1, (CS.out.2.2.2 e he).2⟩))
   clear CS RF; subst ER; go_wp2_with fail
   refine FE.out.mono ?_
   rintro r w5 ⟨A5, c5, us, rfl, hl, he, hc⟩
   have P5 := Lib.hid (And.intro (he.low PC.out.size) (PC.out.trans hc))
   clear hl he hc FE; go_wp2; go_ret2
   exact ⟨A5, c5, us, rfl, P5.out.1, P5.out.2⟩
end
section
open Go.RowKit Go.Lib


theorem fine_take {l : List (Int × Int)} {k : Nat} {x : Int × Int} (h : l[k]? = some x) : fineL (l.take (k + 1)) = (fineL (l.take k) && decide (FineQ x.1 x.2)) := by
 rw [List.take_add_one, h]
 simp [fineL]
theorem fine_no {l : List (Int × Int)} {k : Nat} {x : Int × Int} (h : l[k]? = some x) (hx : ¬ FineQ x.1 x.2) : fineL l = false := by
 rcases hf : fineL l with _ | _
 ·
  rfl
 ·
  exact absurd (fineL_iff.1 hf x (List.mem_of_getElem? h)) hx
theorem alone_take {l : List (Int × Int)} {k : Nat} {x : Int × Int} (h : l[k]? = some x) : (l.take (k + 1)).map aloneP = (l.take k).map aloneP ++ [(x.1, x.2, x.2)] := by
 rw [List.take_add_one, h]
 simp [aloneP]
end
section
open Go.RowKit Go.Sort

set_option maxHeartbeats 1000000 in
theorem dcompare_grow (w : World) (x y : Int × Int) :
    Calls Tryz.prog 159 #[.agg #[.int .i64 x.1, .int .i64 x.2], .agg #[.int .i64 y.1, .int .i64 y.2]] w fun e w' => e = .returned (.int .i64 (cmpD x.1 x.2 y.1 y.2)) ∧ ∃ q os, w' = grow (w.drewN q) os := by
  obtain ⟨a, s⟩ := x
  obtain ⟨b, t⟩ := y
  simp only
  obtain ⟨w0, hw0, c0, b0, b1⟩ := news2 w (.cells #[.int .i64 a, .int .i64 s] 24) (.cells #[.int .i64 b, .int .i64 t] 24)
  have k0 := cell_of b0 0
  have k1 := cell_of b0 1
  have k3 := cell_of b1 0
  have k4 := cell_of b1 1
  simp only [List.getElem?_toArray, List.getElem?_cons_succ, List.getElem?_cons_zero] at k0 k1 k3 k4
  have g0 := lt_of_heap b0
  have g1 := lt_of_heap b1
  have W0 := Lib.hid hw0
  have hgr : ∀ o, ∃ q os, (w0.alloc o).drew = grow (w.drewN q) os := fun o => by
    rw [hw0]
    exact ⟨1, #[(.cells #[.int .i64 a, .int .i64 s] 24), (.cells #[.int .i64 b, .int .i64 t] 24), o], by rw [alloc_eq_grow, alloc_eq_grow, alloc_eq_grow, grow_grow, grow_grow]; rfl⟩
  have GR := Lib.hid hgr
  clear hw0 c0 b0 b1 hgr
  unfold cmpD
  generalize hr : or2 (cmpI a b) (cmpI s t) = R
  have HR := Lib.hid hr
  clear hr
  go_enter Tryz.func159, Tryz.ntmps159
  go_wp2
  rw [← W0.out]
  have n1 := World.new_ne w0 ⟨w.heap.size, 0, none⟩ k0
  have n2 := World.new_ne w0 ⟨w.heap.size + 1, 0, none⟩ k3
  generalize w.heap.size + 1 = s1 at *
  generalize w.heap.size = s0 at *
  go_region_held3 (fun w' => w'.cell? ⟨s0, 0, none⟩ = some (.int .i64 a) ∧ w'.cell? ⟨s0, 1, none⟩ = some (.int .i64 s) ∧ w'.cell? ⟨s1, 0, none⟩ = some (.int .i64 b) ∧ w'.cell? ⟨s1, 1, none⟩ = some (.int .i64 t)) (first | exact ⟨k0, k1, k3, k4⟩ | go_keep)
    ((first
      | (go_at_call 211; (with_reducible refine (cmpint_any _ _ _).mono ?_); rintro e w1 ⟨rfl, rfl⟩)
      | (go_at_call 210; refine (or2_any _ w0.heap.size (cmpI a b) (cmpI s t) (show (w0.alloc _).drew.heap[_]? = _ from heap_alloc_new w0 _)).mono ?_; rintro e w1 ⟨rfl, rfl⟩)))
  all_goals
    go_wp2; go_ret
    exact ⟨by first | rfl | (rw [← HR.out]; rfl), GR.out _⟩
def cmpDD (x y : Int × Int) : Int := cmpD x.1 x.2 y.1 y.2
theorem ltDD (x y : Int × Int) : ltOf cmpDD x y = decide (LtD x.1 x.2 y.1 y.2) := by
 unfold ltOf cmpDD
 exact decide_eq_decide.2 cmpD_lt
theorem swoD : SWO (ltOf cmpDD) where
 irrefl x := by rw [ltDD]; simp [LtD]
 trans x y z h1 h2 := by
  rw [ltDD, decide_eq_true_eq] at *
  unfold LtD at *
  omega
 ntrans x y z h1 h2 := by
  rw [ltDD, decide_eq_false_iff_not] at *
  unfold LtD at *
  omega
theorem totalD (x y : Int × Int) (h1 : ltOf cmpDD x y = false) (h2 : ltOf cmpDD y x = false) : x = y := by
 rw [ltDD, decide_eq_false_iff_not] at h1 h2
 unfold LtD at h1 h2
 refine Prod.ext ?_ ?_ <;> omega
def sortL (xs : List (Int × Int)) : List (Int × Int) := xs.mergeSort fun x y => !(ltOf cmpDD) y x
theorem sortL_len (xs : List (Int × Int)) : (sortL xs).length = xs.length := List.length_mergeSort _
set_option maxHeartbeats 1000000 in
theorem sortfunc_some (w : World) (g c : Nat) (xs : List (Int × Int)) (h : OwnK dotTy w (some ⟨g, 0, none⟩) c xs) (hm : xs.length < 4611686018427387904) :
  Calls Tryz.prog 158 #[.slice (some ⟨g, 0, none⟩) xs.length c, .func (.func 159) #[] #[]] w fun e w' => e = .returned (.tuple #[]) ∧ OwnK dotTy w' (some ⟨g, 0, none⟩) c (sortL xs) ∧ Chg [g] w w' := by
 have hblk : g < w.heap.size := by
  rcases h.shape with ⟨h, _⟩ | ⟨g', h, hl⟩
  ·
   cases h
  ·
   cases h; exact hl
 have eg : ∀ args w, (callFunc 159 args).run Tryz.prog w = .ok (.enter 159 args) w := enters_of Tryz.func159 (by kernel_rfl) rfl
 have hcmp : CmpLays Tryz.prog 159 #[] dotTy.enc dotTy.k cmpDD g 0 xs.toArray.size w := fun m os dk _ x y => by
  have := dcompare_grow (sortWorldK dotTy.enc dotTy.k w g 0 m dk os) x y
  exact this
 have hcon := AnyQ.slices_SortFunc_total Tryz.llLaysD06 2 Tryz.isAgg24 Tryz.sizeOf24 dotTy.enc dotTy.klen dotTy.one cmpDD swoD 159 #[] g 0 c xs.toArray w eg hcmp h.holds hblk (by simpa using hm) totalD
 refine Calls.mono hcon ?_
 rintro e w' ⟨he, n, os, hw⟩
 refine ⟨he, ?_⟩
 rw [hw]
 exact h.sorted (ys := sortL xs) (sortL_len xs) n os
end
section
open Go.RowKit Go.Sort Go.Lib

theorem RdK.none_nil {α : Type} {R : RowTy α} {w : World} {n : Nat} {xs : List α} (h : RdK R w none n xs) : xs = [] := by
 cases xs with
 | nil => rfl
 | cons y ys =>
  have : 0 < (R.flat (y :: ys)).length := by rw [R.flat_len, List.length_cons]; exact Nat.mul_pos (by omega) R.kpos
  obtain ⟨a, h, _⟩ := h.cells 0 _ (List.getElem?_eq_getElem this); cases h
set_option maxRecDepth 100000 in
set_option maxHeartbeats 1000000 in
theorem cloneDot_any (w : World) (A : Option Addr) (n c : Nat) (xs : List (Int × Int)) (h : RdK dotTy w A n xs) (hn : n * 400 ≤ 140737488355327) :
  Calls Tryz.prog 157 #[.slice A n c] w fun e w' => ∃ A' c', e = .returned (.slice A' n c') ∧ OwnK dotTy w' A' c' xs ∧ (∀ a, A' = some a → w.heap.size ≤ a.block) ∧ Chg [] w w' := by
 have heq := fun W => Lib.run_eql_slice_nil (P := Tryz.prog) W 64 24 A n c 0 0 Tryz.underlying64
 cases A with
 | none =>
  have hx := h.none_nil
  subst hx
  have hl : n = 0 := h.len.symm
  subst hl; clear h
  go_enter Tryz.func157, Tryz.ntmps157
  go_wp2; go_ret
  exact ⟨none, 0, rfl, OwnK.none_ _, by simp, Chg.refl _ _⟩
 | some ad =>
  obtain ⟨w1, hw1, c1, b1⟩ := news1 w (.cells #[] 24)
  have W1 := Lib.hid hw1
  have HA := Lib.hid (h.chg c1 (by simp))
  have HO : Hid (OwnK dotTy w1 (some ⟨w.heap.size, 0, none⟩) 0 []) := Lib.hid (.of (full := []) b1 (Nat.le_refl _) (Nat.zero_le _) rfl rfl)
  have C1 := Lib.hid c1
  have HN : Hid ((0 + n) * 400 ≤ 140737488355327) := Lib.hid (by rw [Nat.zero_add]; exact hn)
  clear hw1 c1 b1 h hn
  go_enter Tryz.func157, Tryz.ntmps157
  go_wp2_with (at_builtin; rw [← W1.out]; refine wpList_appK rfl _ _ rfl rfl HO.out rfl rfl HA.out HN.out ?_; intro A2 c2 w2 u2 d2 e2)
  go_ret
  rw [Nat.zero_add] at *
  have hA2 : ∀ a, A2 = some a → w.heap.size ≤ a.block := by
   rintro a rfl
   rcases e2 with h | h
   ·
    cases h; exact Nat.le_refl _
   ·
    cases h; exact C1.out.size
  exact ⟨A2, c2, by simp, by simpa using u2, hA2, C1.out.grown d2 (fun k hk => by simp at hk; subst hk; exact .inr (Nat.le_refl _))⟩

theorem run_clearD (w : World) (ty : TypeId) (g c n k : Nat) (full : List (Int × Int)) (hg : w.heap[g]? = some (.cells (dotTy.flat full).toArray 24 (0, 0))) (hl : full.length = c) (hn : n ≤ c) (hk : k < n) :
  (Builtin.clear_ #[64] ty #[.slice (some ⟨g, k * 2, none⟩) (n - k) (c - k)]).run Tryz.prog w = .ok (.tuple #[]) (w.setRow g (dotTy.flat (full.take k ++ List.replicate (n - k) (0, 0) ++ full.drop n)).toArray) := by
 have hz := dotTy.zeros (n - k)
 have hk2 : dotTy.k = 2 := rfl
 have hlen : (dotTy.flat full).length = full.length * 2 := dotTy.flat_len full
 have hlz : (dotTy.flat (List.replicate (n - k) dotTy.z)).length = (n - k) * 2 := by rw [dotTy.flat_len, List.length_replicate, hk2]
 have hst := run_storeCells_at (P := Tryz.prog) g (k * 2) 24 (dotTy.flat (List.replicate (n - k) dotTy.z)) 0 _ w hg (by rw [hlz, List.size_toArray, hlen]; omega) (dotTy.flat_one _)
 have ht := dotTy.flat_take full k
 have hd := dotTy.flat_drop full n
 rw [hk2] at ht hd
 have hfin : ((dotTy.flat full).toArray.toList.take (k * 2 + 0) ++ dotTy.flat (List.replicate (n - k) dotTy.z) ++ (dotTy.flat full).toArray.toList.drop (k * 2 + 0 + (dotTy.flat (List.replicate (n - k) dotTy.z)).length)) = dotTy.flat (full.take k ++ List.replicate (n - k) (0, 0) ++ full.drop n) := by
  rw [dotTy.flat_app, dotTy.flat_app, ht, hd, hlz, show k * 2 + 0 + (n - k) * 2 = n * 2 by omega]
  rfl
 rw [hfin] at hst
 obtain ⟨m, hm⟩ : ∃ m, n - k = m + 1 := ⟨n - k - 1, by omega⟩
 have hzv : ∀ w, (zeroValue 24).run Tryz.prog w = .ok (.agg #[.int .i64 0, .int .i64 0]) w := Tryz.zeroValue24
 have hzz : (Builtin.zeroCells (Value.agg #[.int .i64 0, .int .i64 0]).cells (n - k)).toList = dotTy.flat (List.replicate (n - k) dotTy.z) := by
  exact (congrArg Array.toList hz).trans (by simp)
 rw [hm] at hst hzz ⊢
 simp [Builtin.clear_, run_underlying Tryz.underlying64, hzv, hzz, hst]
instance : Inhabited (Int × Int) := ⟨(0, 0)⟩
theorem dk_at {dk : Array (Int × Int)} {rest : List (Int × Int)} {j : Nat} (h : j < dk.size) : (dk.toList ++ rest)[j]? = some dk[j]! := by
 rw [List.getElem?_append_left (by simpa using h), Array.getElem?_toList, Array.getElem?_eq_getElem h, getElem!_pos dk j h]
theorem dk_set {dk : Array (Int × Int)} {rest : List (Int × Int)} {j : Nat} (x : Int × Int) (h : j < dk.size) : (dk.toList ++ rest).set j x = (dk.setIfInBounds j x).toList ++ rest := by
 rw [List.set_append_left _ _ (by simpa using h), Array.toList_setIfInBounds]
structure RowD (w wr : World) (g : Nat) (dk : Array (Int × Int)) (rest : List (Int × Int)) : Prop where
 row : wr.heap[g]? = some (.cells (dotTy.flat (dk.toList ++ rest)).toArray 24 (0, 0))
 chg : Chg [g] w wr
theorem RowD.at_ {w wr : World} {g : Nat} {dk : Array (Int × Int)} {rest : List (Int × Int)} (h : RowD w wr g dk rest) (hm : (dk.toList ++ rest).length ≤ maxLen) {j : Nat} (hj : j < dk.size) :
  (wr.cell? ⟨g, j * 2, none⟩ = some (.int .i64 dk[j]!.1) ∧ wr.cell? ⟨g, j * 2 + 1, none⟩ = some (.int .i64 dk[j]!.2)) ∧ wr.frozen? ⟨g, j * 2, none⟩ = false ∧ wr.frozen? ⟨g, j * 2 + 1, none⟩ = false := by
 have hrd : RdK dotTy wr (some ⟨g, 0, none⟩) (dk.toList ++ rest).length (dk.toList ++ rest) := (OwnK.of (R := dotTy) (xs := dk.toList ++ rest) h.row (Nat.le_refl _) hm rfl (List.take_length)).reads
 have := dotCells hrd (dk_at hj)
 simp only [Nat.zero_add] at this
 exact ⟨this, free_of h.row _, free_of h.row _⟩
theorem RowD.put {w wr : World} {g : Nat} {dk : Array (Int × Int)} {rest : List (Int × Int)} (h : RowD w wr g dk rest) {j : Nat} (hj : j < dk.size) (x : Int × Int) :
  RowD w ((wr.setCell ⟨g, j * 2, none⟩ (.int .i64 x.1)).setCell ⟨g, j * 2 + 1, none⟩ (.int .i64 x.2)) g (dk.setIfInBounds j x) rest := by
 refine ⟨?_, h.chg.trans (((Chg.refl [g] wr).setCell (p := ⟨g, j * 2, none⟩) (.inl (by simp)) _).setCell (p := ⟨g, j * 2 + 1, none⟩) (.inl (by simp)) _)⟩
 have := dotPut wr g j (dk.toList ++ rest) x h.row (by simp; omega)
 rwa [dk_set x hj] at this
theorem RowD.drew {w wr : World} {g : Nat} {dk : Array (Int × Int)} {rest : List (Int × Int)} (h : RowD w wr g dk rest) (n : Nat) : RowD w (wr.drewN n) g dk rest := ⟨h.row, h.chg.drewN n⟩
theorem Lib.CompInv.take_ {d dk : Array (Int × Int)} {m k : Nat} (h : CompInv d m k dk) (hm : m ≤ d.size) : dk.toList.take k = compactUpTo d m := by
 apply List.ext_getElem?
 intro j
 have hk := h.lt
 have hs := h.size
 by_cases hj : j < k
 ·
  rw [List.getElem?_take, if_pos hj, h.low j hj, Array.getElem?_toList, Array.getElem?_eq_getElem (by omega), getElem!_pos dk j (by omega)]
 ·
  rw [List.getElem?_eq_none (by simp; omega), List.getElem?_eq_none (by rw [h.len]; omega)]
def cmpct (xs : List (Int × Int)) : List (Int × Int) := compactUpTo xs.toArray xs.length
set_option maxHeartbeats 4000000 in
theorem compactDot_row (w : World) (g c : Nat) (xs rest : List (Int × Int)) (hg : w.heap[g]? = some (.cells (dotTy.flat (xs ++ rest)).toArray 24 (0, 0))) (hc : (xs ++ rest).length = c) (hcm : c ≤ 9223372036854775807) (h2 : ¬ xs.length < 2) :
  Calls Tryz.prog 160 #[.slice (some ⟨g, 0, none⟩) xs.length c] w fun e w' => e = .returned (.slice (some ⟨g, 0, none⟩) (cmpct xs).length c) ∧ OwnK dotTy w' (some ⟨g, 0, none⟩) c (cmpct xs) ∧ Chg [g] w w' := by
 obtain ⟨d, hd⟩ : ∃ d : Array (Int × Int), d = xs.toArray := ⟨_, rfl⟩
 have hds : d.size = xs.length := by rw [hd]; simp
 have hdl : d.toList = xs := by rw [hd]
 have hcr : d.size + rest.length = c := by rw [hds, ← hc, List.length_append]
 have hml : ∀ dk : Array (Int × Int), dk.size = d.size → (dk.toList ++ rest).length ≤ maxLen := fun dk h => by rw [List.length_append, Array.length_toList]; unfold maxLen; omega
 have HM := Lib.hid hml
 have hall0 : (∀ j, j < d.size → keeps d j = true) → cmpct xs = xs := fun h => by
  unfold cmpct
  rw [← hds, ← hd, compactUpTo_all d _ h, range_map_get, hdl]
 have HX := Lib.hid hall0
 have hct : cmpct xs = compactUpTo d d.size := by unfold cmpct; rw [hd]; simp
 have HC := Lib.hid hct
 have HR : Hid (RowD w w g d rest) := Lib.hid ⟨by rw [hdl]; exact hg, Chg.refl _ _⟩
 have HO := Lib.hid (OwnK.of (R := dotTy) (full := xs ++ rest) (xs := xs) hg (by rw [← hc]; simp) (by unfold maxLen; omega) hc List.take_left)
 have HD := Lib.hid hdl
 rw [← hds] at h2 ⊢
 have h2' : ¬ ((d.size : Int) < 2) := by omega
 have HS := Lib.hid hds
 have HCR := Lib.hid hcr
 have hle : d.size ≤ c := by omega
 clear hd hds hdl hml hall0 hct hg hc hcr
 go_enter Tryz.func160, Tryz.ntmps160
 go_wp2
 go_loopg [3] d.size (fun G s3 wr => ∃ k : Nat, 1 ≤ k ∧ k ≤ d.size ∧ d.size - k ≤ G ∧ s3 = .int .i64 k ∧ Hid (Chg [] w wr ∧ ∀ j, j < k → keeps d j = true))
 case atStart => exact ⟨1, Nat.le_refl _, by omega, by omega, rfl, Chg.refl _ _, keeps_lt_one d⟩
 case round =>
  obtain ⟨k, hk1, hk, hG, rfl, HA⟩ := hrel
  by_cases hlt : k < d.size
  ·
   have hrow : RowD w wr g d rest := ⟨HA.out.1.at_ HR.out.row (by simp), HA.out.1.mono (by simp)⟩
   obtain ⟨⟨p0, p1⟩, _⟩ := hrow.at_ (HM.out d rfl) hlt
   obtain ⟨⟨q0, q1⟩, _⟩ := hrow.at_ (HM.out d rfl) (j := k - 1) (by omega)
   have HRW := Lib.hid hrow
   have i0 : (0 : Int) ≤ (k : Int) := by omega
   have i1 : (k : Int) < (d.size : Int) := by omega
   have i2 : IntKind.i64.wrap ((k : Int) - 1) = ((k - 1 : Nat) : Int) := by rw [IntWalk.i64_in _ (by omega)]; omega
   have i3 : ((k - 1 : Nat) : Int) < (d.size : Int) := by omega
   generalize hx : d[k]! = x at *
   generalize hy : d[k - 1]! = y at *
   have B := Lib.hid (And.intro hx hy)
   clear hrow hx hy
   by_cases hxy : x = y
   ·
    subst hxy; skip; go_wp2_with fail
    go_quiet (fail)
    clear p0 p1 q0 q1
    have i4 : (0 : Int) ≤ ((d.size - k : Nat) : Int) := by omega
    have i5 : ¬ c = k := by omega
    go_wp2
    go_loopg [3, 5] d.size (fun G s3 s5 wr => ∃ (kk k2 : Nat) (dk : Array (Int × Int)), s3 = .int .i64 kk ∧ s5 = .int .i64 k2 ∧ 1 ≤ k2 ∧ k + k2 ≤ d.size ∧ d.size - (k + k2) ≤ G ∧ Hid (RowD w wr g dk rest ∧ CompInv d (k + k2) kk dk))
    case atStart => exact ⟨k, 1, d, rfl, rfl, Nat.le_refl _, by omega, by omega, HRW.out.drew _, CompInv.start HA.out.2 (keeps_neg (by omega) (by rw [B.out.1, B.out.2]))⟩
    case round =>
     obtain ⟨kk, k2, dk, rfl, rfl, h1, hle2, hg2, HI⟩ := hrel
     have hkk := HI.out.2.lt
     have hds := HI.out.2.size
     by_cases hlt2 : k + k2 < d.size
     ·
      obtain ⟨⟨p0, p1⟩, _⟩ := HI.out.1.at_ (HM.out dk hds) (j := k + k2) (by omega)
      obtain ⟨⟨q0, q1⟩, _⟩ := HI.out.1.at_ (HM.out dk hds) (j := k + k2 - 1) (by omega)
      obtain ⟨⟨r0, r1⟩, f0, f1⟩ := HI.out.1.at_ (HM.out dk hds) (j := kk) (by omega)
      rw [HI.out.2.high (k + k2) (by omega), show (k + k2) * 2 = k * 2 + k2 * 2 by omega] at p0 p1
      rw [HI.out.2.high (k + k2 - 1) (by omega), show (k + k2 - 1) * 2 = k * 2 + (k2 - 1) * 2 by omega] at q0 q1
      generalize hu : d[k + k2]! = u at *
      generalize hv : d[k + k2 - 1]! = v at *
      generalize dk[kk]! = old at *
      have C := Lib.hid (And.intro hu hv)
      clear hu hv
      have HP := Lib.hid ((HI.out.1.drew 1).put (j := kk) (by omega) u)
      have j0 : (0 : Int) ≤ (k2 : Int) := by omega
      have j1 : (k2 : Int) < ((d.size - k : Nat) : Int) := by omega
      have j2 : IntKind.i64.wrap ((k2 : Int) - 1) = ((k2 - 1 : Nat) : Int) := by rw [IntWalk.i64_in _ (by omega)]; omega
      have j3 : ((k2 - 1 : Nat) : Int) < ((d.size - k : Nat) : Int) := by omega
      have j4 : (0 : Int) ≤ (kk : Int) := by omega
      have j5 : (kk : Int) < (d.size : Int) := by omega
      by_cases huv : u = v
      ·
       subst huv; go_wp2_with fail
       go_quiet (fail)
       go_wp2
       go_roundg (d.size - (k + (k2 + 1)))
       case measure => omega
       case rel => exact ⟨kk, k2 + 1, dk, rfl, by go_num, by omega, by omega, Nat.le_refl _, HI.out.1.drew _, HI.out.2.skip (keeps_neg (by omega) (by rw [C.out.1, C.out.2]))⟩
      ·
       have HU := Lib.hid huv
       by_cases h0 : u.1 = v.1
       ·
        have h1 : ¬ u.2 = v.2 := fun h => huv (Prod.ext h0 h)
        clear huv; go_wp2_with fail
        go_quiet (fail)
        go_wp2
        go_roundg (d.size - (k + (k2 + 1)))
        case measure => omega
        case rel => exact ⟨kk + 1, k2 + 1, dk.setIfInBounds kk u, by go_num, by go_num, by omega, by omega, Nat.le_refl _, by have hp := (HI.out.1.drew nq).put (j := kk) (by omega) u; first | exact hp | (rw [h0] at hp; exact hp), by have := HI.out.2.keep hlt2 (keeps_pos (by rw [C.out.1, C.out.2]; exact HU.out)); rwa [C.out.1] at this⟩
       ·
        skip; clear huv; go_wp2_with fail
        go_quiet (fail)
        go_wp2
        go_roundg (d.size - (k + (k2 + 1)))
        case measure => omega
        case rel => exact ⟨kk + 1, k2 + 1, dk.setIfInBounds kk u, by go_num, by go_num, by omega, by omega, Nat.le_refl _, by have hp := (HI.out.1.drew nq).put (j := kk) (by omega) u; first | exact hp | (rw [h0] at hp; exact hp), by have := HI.out.2.keep hlt2 (keeps_pos (by rw [C.out.1, C.out.2]; exact HU.out)); rwa [C.out.1] at this⟩
     ·
      have hend : k + k2 = d.size := by omega
      have hcl := fun ty => run_clearD wr ty g c d.size kk (dk.toList ++ rest) HI.out.1.row (by rw [List.length_append, Array.length_toList, hds]; exact HCR.out) hle (by omega)
      have hI := HI.out.2
      rw [hend] at hI
      have hlen := hI.len
      have hdn := hI.done (0, 0)
      have j6 : ¬ c = kk := by omega
      have j7 : (kk : Int) ≤ (d.size : Int) := by omega
      have j8 : (0 : Int) ≤ (kk : Int) := by omega
      have HF := Lib.hid (And.intro hI hdn)
      clear hI hlen hdn
      have HJ := Lib.hid (And.intro hend (And.intro hkk hds))
      have hz : decide (k2 < d.size - k) = false := by simp; omega
      have hz2 : ¬ k2 < d.size - k := by omega
      clear hend hkk hds hlt2
      have hown := OwnK.of (R := dotTy) (w := wr.setRow g (dotTy.flat (List.take kk (dk.toList ++ rest) ++ (List.replicate (d.size - kk) (0, 0) ++ List.drop d.size (dk.toList ++ rest)))).toArray) (g := g) (c := c) (full := List.take kk (dk.toList ++ rest) ++ (List.replicate (d.size - kk) (0, 0) ++ List.drop d.size (dk.toList ++ rest))) (xs := cmpct xs) (setRow_heap wr g _ _ _ _ HI.out.1.row)
       (by rw [HC.out, HF.out.1.len]; omega) (by unfold maxLen; omega) (by have := HJ.out.2.2; have := HCR.out; simp; omega) (by rw [HC.out, HF.out.1.len, List.take_append_of_le_length (by have := HJ.out; simp; omega), List.take_take, Nat.min_self, List.take_append_of_le_length (by have := HJ.out; simp; omega)]; exact Lib.CompInv.take_ HF.out.1 (Nat.le_refl _))
      have hch : Chg [g] w (wr.setRow g (dotTy.flat (List.take kk (dk.toList ++ rest) ++ (List.replicate (d.size - kk) (0, 0) ++ List.drop d.size (dk.toList ++ rest)))).toArray) := HI.out.1.chg.trans ⟨rfl, rfl, rfl, by simp, fun i hi hn => setRow_other wr g i _ (by simpa using hn)⟩
      have HE := Lib.hid (And.intro hown hch)
      clear hown hch; go_wp2; go_ret
      exact ⟨by rw [HC.out, HF.out.1.len]; rfl, HE.out.1, HE.out.2⟩
   ·
    have HU := Lib.hid hxy
    by_cases h0 : x.1 = y.1
    ·
     have h1 : ¬ x.2 = y.2 := fun h => hxy (Prod.ext h0 h)
     clear hxy; go_wp2_with fail
     go_quiet (fail)
     go_wp2
     go_roundg (d.size - (k + 1))
     case measure => omega
     case rel =>
      refine ⟨k + 1, by omega, by omega, Nat.le_refl _, by go_num, HA.out.1.drewN _, fun j hj => ?_⟩
      by_cases e : j = k
      ·
       subst e
       exact keeps_pos (by rw [B.out.1, B.out.2]; exact HU.out)
      ·
       exact HA.out.2 j (by omega)
    ·
     skip; clear hxy; go_wp2_with fail
     go_quiet (fail)
     go_wp2
     go_roundg (d.size - (k + 1))
     case measure => omega
     case rel =>
      refine ⟨k + 1, by omega, by omega, Nat.le_refl _, by go_num, HA.out.1.drewN _, fun j hj => ?_⟩
      by_cases e : j = k
      ·
       subst e
       exact keeps_pos (by rw [B.out.1, B.out.2]; exact HU.out)
      ·
       exact HA.out.2 j (by omega)
  ·
   obtain rfl : k = d.size := by omega
   clear hlt; go_wp2; go_ret
   rw [HX.out HA.out.2]
   exact ⟨by rw [← HS.out]; rfl, HO.out.chg HA.out.1 (by simp), HA.out.1.mono (by simp)⟩
end
section
open Go.RowKit Go.Sort Go.Lib

theorem cmpct_small {xs : List (Int × Int)} (h : xs.length < 2) : cmpct xs = xs := by
 unfold cmpct
 have hk : ∀ j, j < xs.length → keeps xs.toArray j = true := fun j hj => keeps_lt_one _ j (by omega)
 rw [compactUpTo_all _ _ hk]
 have := range_map_get xs.toArray
 simpa using this
theorem compactDot_any (w : World) (A : Option Addr) (n c : Nat) (xs : List (Int × Int)) (h : OwnK dotTy w A c xs) (hn : n = xs.length) (hm : n ≤ 140737488351232) :
  Calls Tryz.prog 160 #[.slice A n c] w fun e w' => e = .returned (.slice A (cmpct xs).length c) ∧ OwnK dotTy w' A c (cmpct xs) ∧ Chg (blkOf A) w w' := by
 subst hn
 by_cases h2 : xs.length < 2
 ·
  rw [cmpct_small h2]
  have hi : (xs.length : Int) < 2 := by omega
  have HO := Lib.hid h
  clear h h2
  go_enter Tryz.func160, Tryz.ntmps160
  go_wp2; go_ret
  exact ⟨rfl, HO.out, Chg.refl _ _⟩
 ·
  rcases h with ⟨_, rfl, _⟩ | ⟨g, full, rfl, hg, hl, hc, hn, ht⟩
  ·
   simp at h2
  ·
   have hs : full = xs ++ full.drop xs.length := by
    conv => lhs; rw [← List.take_append_drop xs.length full]
    rw [ht]
   have := compactDot_row w g c xs (full.drop xs.length) (by rw [← hs]; exact hg) (by rw [← hs]; exact hl) (by unfold maxLen at hc; exact hc) h2
   exact this
theorem sortfunc_any (w : World) (A : Option Addr) (n c : Nat) (xs : List (Int × Int)) (h : OwnK dotTy w A c xs) (hn : n = xs.length) (hm : n ≤ 140737488351232) :
  Calls Tryz.prog 158 #[.slice A n c, .func (.func 159) #[] #[]] w fun e w' => e = .returned (.tuple #[]) ∧ OwnK dotTy w' A c (sortL xs) ∧ Chg (blkOf A) w w' := by
 subst hn
 rcases h.shape with ⟨rfl, rfl, rfl⟩ | ⟨g, rfl, _⟩
 ·
  have := AnyF.slices_SortFunc_none Tryz.llLaysD06 none 0 (.func (.func 159) #[] #[]) w
  refine Calls.mono this ?_
  rintro e w' ⟨he, rfl⟩
  have e0 : sortL [] = [] := List.eq_nil_of_length_eq_zero (sortL_len [])
  rw [e0]
  exact ⟨he, OwnK.none_ _, Chg.refl _ _⟩
 ·
  exact sortfunc_some w g c xs h (by omega)
def sortD (xs : List (Int × Int)) : List (Int × Int) := cmpct (sortL xs)
set_option maxHeartbeats 1000000 in
theorem dsort_any (w : World) (A : Option Addr) (n c : Nat) (xs : List (Int × Int)) (h : RdK dotTy w A n xs) (hn : n * 400 ≤ 140737488355327) :
  Calls Tryz.prog 92 #[.slice A n c] w fun e w' => ∃ A' c', e = .returned (.slice A' (sortD xs).length c') ∧ OwnK dotTy w' A' c' (sortD xs) ∧ (∀ a, A' = some a → w.heap.size ≤ a.block) ∧ Chg [] w w' := by
 have hl := h.len
 have HA := Lib.hid h
 have HN := Lib.hid hn
 have HL := Lib.hid hl
 clear h hn hl
 go_enter Tryz.func92, Tryz.ntmps92
 go_wp2_with fail
 refine (cloneDot_any w A n c xs HA.out HN.out).mono ?_
 rintro e w1 ⟨A1, c1, rfl, o1, n1, h1⟩
 have O1 := Lib.hid o1
 have N1 := Lib.hid n1
 have C1 := Lib.hid h1
 clear o1 n1 h1; go_wp2_with fail
 refine (sortfunc_any w1 A1 n c1 xs O1.out HL.out.symm (by have := HN.out; omega)).mono ?_
 rintro e w2 ⟨rfl, o2, h2⟩
 have O2 := Lib.hid o2
 have C2 := Lib.hid (C1.out.trans' h2 fun i hi => .inr (blkOf_new N1.out i hi))
 clear o2 h2 O1; go_wp2_with fail
 refine (compactDot_any w2 A1 n c1 (sortL xs) O2.out (by rw [sortL_len]; exact HL.out.symm) (by have := HN.out; omega)).mono ?_
 rintro e w3 ⟨rfl, o3, h3⟩
 have O3 := Lib.hid o3
 have C3 := Lib.hid (C2.out.trans' h3 fun i hi => .inr (blkOf_new N1.out i hi))
 clear o3 h3; go_wp2; go_ret
 exact ⟨A1, c1, rfl, O3.out, N1.out, C3.out⟩
end
section
open Go.RowKit Go.Sort Go.Lib

def LtP (x y : Int × Int) : Prop := LtD x.1 x.2 y.1 y.2
instance (x y : Int × Int) : Decidable (LtP x y) := by unfold LtP; exact inferInstance
theorem LtP.irr (x : Int × Int) : ¬ LtP x x := by unfold LtP LtD; omega
theorem LtP.tr {x y z : Int × Int} (h : LtP x y) (k : LtP y z) : LtP x z := by unfold LtP LtD at *; omega
theorem LtP.conn {x y : Int × Int} (h : ¬ LtP x y) (k : ¬ LtP y x) : x = y := by
 unfold LtP LtD at *
 refine Prod.ext ?_ ?_ <;> omega
theorem strict_ext : ∀ {l m : List (Int × Int)}, l.Pairwise LtP → m.Pairwise LtP → (∀ x, x ∈ l ↔ x ∈ m) → l = m
 | [], [], _, _, _ => rfl
 | [], y :: m, _, _, h => absurd ((h y).2 (by simp)) (by simp)
 | x :: l, [], _, _, h => absurd ((h x).1 (by simp)) (by simp)
 | x :: l, y :: m, hl, hm, h => by
  rw [List.pairwise_cons] at hl hm
  have hxy : x = y := by
   have h1 := (h x).1 (by simp)
   have h2 := (h y).2 (by simp)
   rw [List.mem_cons] at h1 h2
   rcases h1 with h1 | h1
   ·
    exact h1
   ·
    rcases h2 with h2 | h2
    ·
     exact h2.symm
    ·
     exact absurd ((hm.1 x h1).tr (hl.1 y h2)) (LtP.irr y)
  subst hxy
  congr 1
  refine strict_ext hl.2 hm.2 fun z => ?_
  have := h z
  rw [List.mem_cons, List.mem_cons] at this
  constructor
  ·
   intro hz
   rcases this.1 (.inr hz) with e | e
   ·
    subst e; exact absurd (hl.1 z hz) (LtP.irr z)
   ·
    exact e
  ·
   intro hz
   rcases this.2 (.inr hz) with e | e
   ·
    subst e; exact absurd (hm.1 z hz) (LtP.irr z)
   ·
    exact e
theorem sortL_sorted (xs : List (Int × Int)) : (sortL xs).Pairwise fun x y => ¬ LtP y x := by
 have h := List.pairwise_mergeSort (le := fun x y => !(ltOf cmpDD) y x) (fun a b c h1 h2 => by
  simp only [ltDD, Bool.not_eq_true', decide_eq_false_iff_not] at *
  unfold LtD at *; omega) (fun a b => by
  simp only [ltDD, Bool.or_eq_true, Bool.not_eq_true', decide_eq_false_iff_not] at *
  unfold LtD; omega) xs
 refine h.imp ?_
 intro a b hab
 simp only [ltDD, Bool.not_eq_true', decide_eq_false_iff_not] at hab
 exact hab
theorem sortL_mem (xs : List (Int × Int)) (x : Int × Int) : x ∈ sortL xs ↔ x ∈ xs := List.mem_mergeSort
theorem range_cmp (xs : List (Int × Int)) (m : Nat) (hm : m ≤ xs.length) (hs : xs.Pairwise fun x y => ¬ LtP y x) :
  (compactUpTo xs.toArray m).Pairwise LtP ∧ (∀ x, x ∈ compactUpTo xs.toArray m ↔ x ∈ xs.take m) := by
 induction m with
 | zero => simp [compactUpTo]
 | succ m ih =>
  obtain ⟨h1, h2⟩ := ih (by omega)
  have hml : m < xs.length := by omega
  have hx : xs.toArray[m]! = xs[m] := by rw [getElem!_pos xs.toArray m (by simpa using hml)]; simp
  have ht : xs.take (m + 1) = xs.take m ++ [xs[m]] := List.take_succ_eq_append_getElem hml
  have hlo : ∀ a ∈ xs.take m, ¬ LtP xs[m] a := by
   intro a ha
   obtain ⟨i, hi, e⟩ := List.getElem_of_mem ha
   rw [List.length_take] at hi
   rw [List.getElem_take] at e
   subst e
   exact List.pairwise_iff_getElem.1 hs i m (by omega) hml (by omega)
  rw [compactUpTo_succ, ht, hx]
  by_cases hk : keeps xs.toArray m = true
  ·
   rw [if_pos hk]
   refine ⟨?_, fun x => by rw [List.mem_append, List.mem_append, h2]⟩
   rw [List.pairwise_append]
   refine ⟨h1, by simp, fun a ha b hb => ?_⟩
   rw [List.mem_singleton] at hb
   subst hb
   have ha2 := (h2 a).1 ha
   refine Decidable.byContradiction fun hc => ?_
   have e : a = xs[m] := LtP.conn hc (hlo a ha2)
   -- a is xs[m] and lies ahead: all between are it, so xs[m-1] is it
   simp only [keeps, decide_eq_true_eq] at hk
   rcases hk with hk | hk
   ·
    subst hk; simp at ha2
   ·
    apply hk
    rw [hx, getElem!_pos xs.toArray (m - 1) (by simp; omega)]
    obtain ⟨i, hi, e2⟩ := List.getElem_of_mem ha2
    rw [List.length_take] at hi
    rw [List.getElem_take] at e2
    have h0 : 0 < m := by omega
    by_cases him : i = m - 1
    ·
     subst him; simp only [List.getElem_toArray]; rw [e2, e]
    ·
     have p1 := List.pairwise_iff_getElem.1 hs i (m - 1) (by omega) (by omega) (by omega)
     have p2 := List.pairwise_iff_getElem.1 hs (m - 1) m (by omega) hml (by omega)
     rw [e2, e] at p1
     simp only [List.getElem_toArray]
     exact (LtP.conn p1 p2).symm
  ·
   rw [if_neg hk, List.append_nil]
   refine ⟨h1, fun x => ?_⟩
   rw [h2, List.mem_append, List.mem_singleton]
   constructor
   ·
    exact .inl
   ·
    rintro (h | rfl)
    ·
     exact h
    ·
     simp only [keeps, decide_eq_true_eq, not_or, Decidable.not_not, ne_eq] at hk
     obtain ⟨h0, he⟩ := hk
     rw [hx, getElem!_pos xs.toArray (m - 1) (by simp; omega)] at he
     simp only [List.getElem_toArray] at he
     rw [he]
     exact List.mem_iff_getElem.2 ⟨m - 1, by rw [List.length_take]; omega, by rw [List.getElem_take]⟩
theorem sortD_strict (xs : List (Int × Int)) : (sortD xs).Pairwise LtP ∧ ∀ x, x ∈ sortD xs ↔ x ∈ xs := by
 obtain ⟨h1, h2⟩ := range_cmp (sortL xs) (sortL xs).length (Nat.le_refl _) (sortL_sorted xs)
 refine ⟨h1, fun x => ?_⟩
 show x ∈ compactUpTo (sortL xs).toArray (sortL xs).length ↔ _
 rw [h2, List.take_length, sortL_mem]
end
section
open Go.RowKit Go.Sort Go.Lib

def cntD (x : Int × Int) : List (Int × Int) → Nat
 | [] => 0
 | y :: l => if LtP y x then cntD x l + 1 else 0
def insD (x : Int × Int) (l : List (Int × Int)) : List (Int × Int) :=
 if l[cntD x l]? = some x then l else l.take (cntD x l) ++ x :: l.drop (cntD x l)
theorem cntD_le (x : Int × Int) : ∀ l, cntD x l ≤ l.length
 | [] => Nat.le_refl _
 | y :: l => by unfold cntD; split <;> have := cntD_le x l <;> simp <;> omega
theorem cntD_lt (x : Int × Int) : ∀ (l : List (Int × Int)) (i : Nat) (y : Int × Int), l[i]? = some y → i < cntD x l → LtP y x
 | [], i, y, h, _ => by simp at h
 | z :: l, 0, y, h, hi => by
  simp at h; subst h
  unfold cntD at hi
  split at hi
  ·
   assumption
  ·
   omega
 | z :: l, i + 1, y, h, hi => by
  unfold cntD at hi
  split at hi
  ·
   exact cntD_lt x l i y (by simpa using h) (by omega)
  ·
   omega
theorem cntD_at (x : Int × Int) : ∀ (l : List (Int × Int)) (y : Int × Int), l[cntD x l]? = some y → ¬ LtP y x
 | [], y, h => by simp at h
 | z :: l, y, h => by
  unfold cntD at h
  split at h
  ·
   exact cntD_at x l y (by simpa using h)
  ·
   simp at h; subst h; assumption
theorem insD_len (x : Int × Int) (l : List (Int × Int)) : (insD x l).length ≤ l.length + 1 := by
 unfold insD
 have := cntD_le x l
 split <;> simp <;> omega
theorem insD_mem (x y : Int × Int) (l : List (Int × Int)) : y ∈ insD x l ↔ y = x ∨ y ∈ l := by
 unfold insD
 split
 ·
  rename_i h
  constructor
  ·
   exact .inr
  ·
   rintro (rfl | h2)
   ·
    exact List.mem_of_getElem? h
   ·
    exact h2
 ·
  rw [List.mem_append, List.mem_cons]
  conv => rhs; rw [← List.take_append_drop (cntD x l) l, List.mem_append]
  constructor
  ·
   rintro (h | h | h)
   ·
    exact .inr (.inl h)
   ·
    exact .inl h
   ·
    exact .inr (.inr h)
  ·
   rintro (h | h | h)
   ·
    exact .inr (.inl h)
   ·
    exact .inl h
   ·
    exact .inr (.inr h)
theorem insD_strict (x : Int × Int) (l : List (Int × Int)) (h : l.Pairwise LtP) : (insD x l).Pairwise LtP := by
 unfold insD
 split
 ·
  exact h
 ·
  rename_i hne
  have hs : (l.take (cntD x l) ++ l.drop (cntD x l)).Pairwise LtP := by rw [List.take_append_drop]; exact h
  rw [List.pairwise_append] at hs ⊢
  obtain ⟨a, b, c⟩ := hs
  have hd : ∀ y ∈ l.drop (cntD x l), LtP x y := by
   cases hdr : l.drop (cntD x l) with
   | nil => simp
   | cons z r =>
    have hz : l[cntD x l]? = some z := by
     have := List.getElem?_drop (xs := l) (i := cntD x l) (j := 0)
     rw [hdr] at this
     simpa using this.symm
    have h1 := cntD_at x l z hz
    have hxz : LtP x z := Decidable.byContradiction fun hc => hne (by rw [hz, LtP.conn h1 hc])
    rw [hdr, List.pairwise_cons] at b
    intro y hy
    rcases List.mem_cons.1 hy with rfl | hy
    ·
     exact hxz
    ·
     exact hxz.tr (b.1 y hy)
  have ht : ∀ y ∈ l.take (cntD x l), LtP y x := by
   intro y hy
   obtain ⟨i, hi, e⟩ := List.getElem_of_mem hy
   rw [List.length_take] at hi
   rw [List.getElem_take] at e
   subst e
   exact cntD_lt x l i _ (List.getElem?_eq_getElem (by omega)) (by omega)
  refine ⟨a, ?_, ?_⟩
  ·
   rw [List.pairwise_cons]; exact ⟨hd, b⟩
  ·
   intro y hy z hz
   rcases List.mem_cons.1 hz with rfl | hz
   ·
    exact ht y hy
   ·
    exact c y hy z hz
def insAll (xs : List (Int × Int)) : List (Int × Int) := xs.foldl (fun l x => insD x l) []
theorem insAll_snoc (xs : List (Int × Int)) (x : Int × Int) : insAll (xs ++ [x]) = insD x (insAll xs) := by simp [insAll]
theorem insAll_props (xs : List (Int × Int)) : (insAll xs).Pairwise LtP ∧ (∀ x, x ∈ insAll xs ↔ x ∈ xs) ∧ (insAll xs).length ≤ xs.length := by
 have : ∀ m : List (Int × Int), (insAll m.reverse).Pairwise LtP ∧ (∀ x, x ∈ insAll m.reverse ↔ x ∈ m.reverse) ∧ (insAll m.reverse).length ≤ m.length := by
  intro m
  induction m with
  | nil => simp [insAll]
  | cons y m ih =>
   rw [List.reverse_cons, insAll_snoc]
   refine ⟨insD_strict _ _ ih.1, fun x => ?_, ?_⟩
   ·
    rw [insD_mem, ih.2.1, List.mem_append, List.mem_singleton]
    constructor
    ·
     rintro (h | h); exact .inr h; exact .inl h
    ·
     rintro (h | h); exact .inr h; exact .inl h
   ·
    have := insD_len y (insAll m.reverse)
    simp; omega
 have h := this xs.reverse
 rw [List.reverse_reverse, List.length_reverse] at h
 exact h
theorem insAll_sortD (xs : List (Int × Int)) : insAll xs = sortD xs := by
 refine strict_ext (insAll_props xs).1 (sortD_strict xs).1 fun x => ?_
 rw [(insAll_props xs).2.1, (sortD_strict xs).2]
end
end Go.Proofs.YtomgjogkkoigbaaGreatDoor
