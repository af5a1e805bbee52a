/- store.runs: the runs of a store. Sets of dots, and of texts. As XRangeo; range_late: of an iterator that lays boxes of its own ahead of its first yield (blocks from the start up to m), with a body that always goes on and makes memory of its own (behind m); range_own1: what the caller asks of its invariant is less. No program here. A drawn region in a round's frame, walked as outside of it. store.Check. event.Bytes, Size. The fingerprint: through, More, Sum; the document's. The fingerprint's bytes. Sixteen letters: a number's digits to the base 16: no memory here. -/
import Derived.Test.YtomgjogkkoigbaaGreatDoorZsty
import Derived.Test.YtomgjogkkoigbaaGreatDoorZstq
import Derived.OwnWalkIn
import Derived.Test.YtomgjogkkoigbaaGreatDoorZsts
import Derived.Maps.OwnSet
import Derived.DeepKeys4
import Derived.StringKeys
import Derived.Test.YtomgjogkkoigbaaGreatDoorZsta
import Derived.RangeFuncCalls
import Derived.OrdersIn
import Derived.Test.YtomgjogkkoigbaaGreatDoorZstv
import Derived.Maps.OwnIn
import Derived.Sort.CutIn
import Derived.Deep.Cut
import Derived.Test.YtomgjogkkoigbaaGreatDoorZstd
import Derived.Test.YtomgjogkkoigbaaGreatDoorZstm
set_option linter.unusedSimpArgs false
set_option linter.unusedVariables false
namespace Go.Proofs.YtomgjogkkoigbaaGreatDoor
section
open Go.RowKit Go.Lib


attribute [local go_sem] Oper.semAt_some
def endRun (pre : List (Nat × Nat)) : Nat := (pre.getLast?.map (fun x => x.2)).getD 0
theorem endRun_nil : endRun [] = 0 := rfl
theorem endRun_snoc (pre : List (Nat × Nat)) (x : Nat × Nat) : endRun (pre ++ [x]) = x.2 := by unfold endRun; simp
def runA (A : Option Addr) (k : Nat) : Option Addr := A.map (fun x => x.add (k * 7))
theorem runA_some (g o k : Nat) : runA (some ⟨g, o, none⟩) k = some ⟨g, o + k * 7, none⟩ := by
 unfold runA
 by_cases z : k = 0
 ·
  subst z
  simp [Addr.add]
 ·
  have z7 : ¬ k * 7 = 0 := by omega
  simp only [Option.map_some, Addr.add, z7, if_false]
theorem runA_sub {A : Option Addr} {c k : Nat} (h : c ≠ k) : runA A k = subA A c k := by unfold runA subA; rw [if_neg h]
set_option maxHeartbeats 1000000 in
theorem struns_any (w : World) (A : Option Addr) (n c : Nat) : Calls Tryz.prog 53 #[.slice A n c] w fun e w' =>
  e = .returned (.func (.func 115) #[] #[.pointer (some ⟨w.heap.size, 0, none⟩)]) ∧ w' = w.alloc (.cells #[.slice A n c] 22) := by
 go_enter Tryz.func53, Tryz.ntmps53
 go_wp2; go_ret
 exact ⟨by simp, rfl⟩
set_option maxRecDepth 100000 in
set_option maxHeartbeats 4000000 in
theorem runs1_gives (n l n₁ bs : Nat) (T : List Nat) (A : Option Addr) (c : Nat) (xs : List EvT) (es : List EvP)
  (J Jx : List (Nat × Nat) → World → Prop) (W : World) (hb : bs < n₁) (hT : bs ∉ T) (hn₁ : n₁ ≤ W.heap.size) (hA : xs = [] ∨ ∀ a, A = some a → a.block < n₁ ∧ a.block ∉ T)
  (hJ : ∀ pre A B, W.heap.size ≤ A.heap.size → J pre A → Chg [] A B → J pre B) (hl : xs.length = es.length) (hp : ∀ (i : Nat) (x : EvT) (e : EvP), xs[i]? = some x → es[i]? = some e → x.p = strOf e.p) (hr : RdK evTy W A xs.length xs) (hc : xs.length ≤ c) (hn : xs.length ≤ 100000)
  (hs : W.heap[bs]? = some (.cells #[.slice A xs.length c] 22 (0, 0)))
  (hY : ∀ pre x W1, J pre W1 → (x.1 = endRun pre ∧ RunAt es x.1 x.2) → YieldAt Fence.wide n Tryz.prog l #[.slice (runA A x.1) (x.2 - x.1) (x.2 - x.1)] W1 fun e W' => (e = .returned (.bool true) ∧ J (pre ++ [x]) W' ∧ Kpt n₁ T W1 W') ∨ (e = .returned (.bool false) ∧ Jx (pre ++ [x]) W'))
  (h0 : J [] W) :
  CallsIn Fence.wide (n + 1) Tryz.prog 115 #[.func (.yield l) #[] #[], .pointer (some ⟨bs, 0, none⟩)] W fun e W' => (∃ v, e = .returned v) ∧ ((∃ ys, endRun ys = es.length ∧ J ys W') ∨ ∃ ys, True ∧ Jx ys W') := by
 have h1 : 1 ≤ n + 1 := by omega
 have hro : Fence.wide.round = none := rfl
 have HS := Lib.hid hs
 have HL := Lib.hid hl
 have HP := Lib.hid hp
 have HR := Lib.hid hr
 have HC := Lib.hid hc
 have HN := Lib.hid hn
 have HA := Lib.hid hA
 have HB := Lib.hid (And.intro hb (And.intro hT hn₁))
 have HJ := Lib.hid hJ
 have HY := Lib.hid hY
 clear hs hl hp hr hc hn hA hb hT hn₁ hJ hY
 refine callsIn_of_wp Tryz.func115 rfl trivial ?_ hro
 simp only [Tryz.ntmps115, List.size_toArray, List.length_cons, List.length_nil, Nat.reduceAdd, Nat.reduceSub, Array.replicate_succ, Array.replicate_zero, List.push_toArray, List.append_toArray, List.nil_append, List.cons_append]
 gi_wp2
 gi_loopw [3, 4] (fun v3 v4 wr => ∃ (pre : List (Nat × Nat)) (k : Nat), k = endRun pre ∧ k ≤ xs.length ∧ v3 = .int .i64 (k : Int) ∧ v4 = .int .i64 (k : Int) ∧ Hid (J pre wr) ∧ Hid (Kpt n₁ T W wr))
  (fun v3 _ _ => xs.length - (RowKit.intOf v3).toNat)
 case atStart => exact ⟨[], 0, rfl, Nat.zero_le _, rfl, rfl, Lib.hid h0, Lib.hid (Kpt.refl _ _ _)⟩
 case round =>
  obtain ⟨pre, k, hk, hkl, rfl, rfl, JP, KP⟩ := hrel
  have HK := Lib.hid hk
  clear hk
  have CB : Hid (∀ w', Chg [] wr w' → w'.cell? ⟨bs, 0, none⟩ = some (.slice A xs.length c)) := Lib.hid (fun w' hc => by
   have q := hc.at_ ((KP.out.block bs HB.out.1 HB.out.2.1).trans HS.out) (by simp)
   simpa using cell_of q 0)
  have cb := CB.out wr (Chg.refl [] wr)
  have k0 : (0 : Int) ≤ (k : Int) := by omega
  by_cases hlt : k < xs.length
  ·
   have k1 : (k : Int) < (xs.length : Int) := by omega
   have RX : Hid (∀ w', Chg [] wr w' → RdK evTy w' A xs.length xs) := Lib.hid (fun w' hc => (HR.out.kpt KP.out (HA.out.resolve_left (by intro q; rw [q] at hlt; simp at hlt))).chg hc (by simp))
   obtain ⟨g, o, eA, _⟩ := (RX.out wr (Chg.refl [] wr)).line (by omega)
   subst eA
   obtain ⟨x, hx⟩ : ∃ x, xs[k]? = some x := ⟨_, List.getElem?_eq_getElem hlt⟩
   obtain ⟨b, eb⟩ : ∃ b, es[k]? = some b := ⟨_, List.getElem?_eq_getElem (by have := HL.out; omega)⟩
   have XB : Hid (∀ w', Chg [] wr w' → w'.cell? ⟨g, o + k * 7 + 2, none⟩ = some (.string (strOf b.p))) := Lib.hid (fun w' hc => by
    have q := (evCells (RX.out w' hc) hx).2.2.1
    rwa [HP.out k x b hx eb] at q)
   have EB := Lib.hid eb
   have HLT := Lib.hid hlt
   clear hx eb
   gi_wp2
   clear cb
   generalize wr = wo at *
   clear wr
   gi_loopw [4] (fun v4 wr => ∃ (j : Nat), k ≤ j ∧ j ≤ xs.length ∧ v4 = .int .i64 (j : Int) ∧ Hid (∀ i, k ≤ i → i < j → pathE es i = pathE es k) ∧ Hid (Chg [] wo wr)) (fun v4 _ => xs.length - (RowKit.intOf v4).toNat)
   case atStart => exact ⟨k, Nat.le_refl _, hkl, rfl, Lib.hid (fun i a b => absurd b (by omega)), Lib.hid (Chg.refl [] _)⟩
   case round =>
    obtain ⟨j, hkj, hj, rfl, SM, CQ⟩ := hrel
    have j0 : (0 : Int) ≤ (j : Int) := by omega
    have CD : Hid (Chg [] wo wr.drew) := Lib.hid (CQ.out.trans (Chg.refl [] wr).drew)
    have NEXT : Hid (k < j → RunAt es k j → YieldAt Fence.wide n Tryz.prog l #[.slice (runA (some ⟨g, o, none⟩) k) (j - k) (j - k)] wr.drew fun e W' => (e = .returned (.bool true) ∧ J (pre ++ [(k, j)]) W' ∧ Kpt n₁ T wr.drew W') ∨ (e = .returned (.bool false) ∧ Jx (pre ++ [(k, j)]) W')) := Lib.hid (fun _ q => HY.out pre (k, j) wr.drew (HJ.out _ _ _ KP.out.size JP.out CD.out) ⟨HK.out, q⟩)
    by_cases hjl : j < xs.length
    ·
     have j1 : (j : Int) < (xs.length : Int) := by omega
     have j2 : decide ((j : Int) < (xs.length : Int)) = true := decide_eq_true j1
     have j3 : IntKind.i64.wrap ((j : Int) + 1) = (j : Int) + 1 := IntWalk.i64_in _ (by have := HN.out; omega)
     obtain ⟨y, hy⟩ : ∃ y, xs[j]? = some y := ⟨_, List.getElem?_eq_getElem hjl⟩
     obtain ⟨f, ef⟩ : ∃ f, es[j]? = some f := ⟨_, List.getElem?_eq_getElem (by have := HL.out; omega)⟩
     have YB : Hid (∀ w', Chg [] wo w' → w'.cell? ⟨g, o + j * 7 + 2, none⟩ = some (.string (strOf f.p))) := Lib.hid (fun w' hc => by
      have q := (evCells (RX.out w' hc) hy).2.2.1
      rwa [HP.out j y f hy ef] at q)
     have EF := Lib.hid ef
     clear hy ef
     gi_wp2
     refine wpIn_wide.2 ?_
     refine wp_region_held_drew (S := fun w' => Chg [] wo w') (by kernel_rfl) CD.out (fun hHeld => ?_)
     refine sy 0 10 rfl rfl ?_; try simp only [Act.put, sA, s0, s1]
     refine sy 1 11 rfl rfl ?_ (hy := by (intro w hSw; (try dsimp only at hSw); have q0 := CB.out _ hSw; go_simp; try with_reducible rfl))
     try simp only [Act.put, sA, s0, s1]
     refine sy 2 12 rfl rfl ?_; try simp only [Act.put, sA, s0, s1]
     refine sy 3 13 rfl rfl ?_; try simp only [Act.put, sA, s0, s1]
     refine sy 4 14 rfl rfl ?_; try simp only [Act.put, sA, s0, s1]
     refine sy 5 15 rfl rfl ?_ (hy := by (intro w hSw; (try dsimp only at hSw); have q0 := CB.out _ hSw; go_simp; try with_reducible rfl))
     try simp only [Act.put, sA, s0, s1]
     refine sy 6 16 rfl rfl ?_; try simp only [Act.put, sA, s0, s1]
     refine sy 7 17 rfl rfl ?_; try simp only [Act.put, sA, s0, s1]
     refine sy 8 18 rfl rfl ?_; try simp only [Act.put, sA, s0, s1]
     refine sy 9 19 rfl rfl ?_ (hy := by (intro w hSw; (try dsimp only at hSw); have q0 := YB.out _ hSw; go_simp; try with_reducible rfl))
     try simp only [Act.put, sA, s0, s1]
     refine sy 10 20 rfl rfl ?_ (hy := by (intro w hSw; (try dsimp only at hSw); have q0 := CB.out _ hSw; go_simp; try with_reducible rfl))
     try simp only [Act.put, sA, s0, s1]
     refine sy 11 21 rfl rfl ?_; try simp only [Act.put, sA, s0, s1]
     refine sy 12 22 rfl rfl ?_; try simp only [Act.put, sA, s0, s1]
     refine sy 13 23 rfl rfl ?_; try simp only [Act.put, sA, s0, s1]
     refine sy 14 24 rfl rfl ?_ (hy := by (intro w hSw; (try dsimp only at hSw); have q0 := XB.out _ hSw; go_simp; try with_reducible rfl))
     try simp only [Act.put, sA, s0, s1]
     refine sy 15 25 rfl rfl ?_; try simp only [Act.put, sA, s0, s1]
     refine sy 16 26 rfl rfl ?_; try simp only [Act.put, sA, s0, s1]
     refine wpAnyH_done (by kernel_rfl) ?_ _; clear hHeld CB XB YB
     by_cases hq : f.p = b.p
     ·
      have e6 : (f.p == b.p) = true := beq_iff_eq.2 hq
      have SM1 : Hid (∀ i, k ≤ i → i < j + 1 → pathE es i = pathE es k) := Lib.hid (fun i a t => by
       by_cases u : i = j
       ·
        subst u
        rw [pathE_some EF.out, pathE_some EB.out, hq]
       ·
        exact SM.out i a (by omega))
      have CD1 := CD
      generalize wr.drew = w9 at *
      clear hq SM NEXT
      rw [e6]
      gi_wp2
      go_roundw
      case rel => exact ⟨j + 1, by omega, by omega, by go_num, SM1, CD1⟩
      case measure => simp [RowKit.intOf]; omega
     ·
      have e6 : (f.p == b.p) = false := beq_eq_false_iff_ne.2 hq
      have KJ : Hid (k < j) := Lib.hid (by
       by_cases u : k = j
       ·
        subst u
        rw [EF.out] at EB
        exact absurd (by have := EB.out; cases this; rfl) hq
       ·
        omega)
      have RUN : Hid (RunAt es k j) := Lib.hid ⟨KJ.out, by have := HL.out; omega, SM.out, fun _ e => hq (by rw [pathE_some EF.out, pathE_some EB.out] at e; exact Option.some.inj e)⟩
      rw [e6]
      clear hq SM
      have YD := NEXT.out KJ.out RUN.out
      have KJ2 := KJ.out
      have CD1 := CD
      have CB2 : wr.drew.cell? ⟨bs, 0, none⟩ = some (.slice (some ⟨g, o, none⟩) xs.length c) := by
       have q := CD.out.at_ ((KP.out.block bs HB.out.1 HB.out.2.1).trans HS.out) (by simp)
       simpa using cell_of q 0
      have SZ : Hid (n₁ ≤ wr.drew.heap.size) := Lib.hid (by have := HB.out.2.2; have := KP.out.size; have := CD.out.size; omega)
      have KP1 : Hid (Kpt n₁ T W wr.drew) := Lib.hid (KP.out.trans ((Kpt.of_chg CD.out (by have := HB.out.2.2; have := KP.out.size; omega)).mono (Nat.le_refl _) (by simp)))
      generalize wr.drew = w9 at *
      clear NEXT RX
      have m0 : (0 : Int) ≤ (j : Int) := by omega
      have m1 : (k : Int) ≤ (j : Int) := by omega
      have m2 : (j : Int) ≤ (c : Int) := by have := HC.out; omega
      have m3 : ¬ j = k := by omega
      have RA : runA (some ⟨g, o, none⟩) k = some ⟨g, o + k * 7, none⟩ := runA_some g o k
      rw [RA] at YD
      obtain ⟨fn, tmps, assign, body, hy, hR⟩ := YD
      gi_wp2_with fail
      refine hR.mono ?_
      rintro e W3 (⟨rfl, hJ3, hk3⟩ | ⟨rfl, hx⟩)
      ·
       gi_wp2
       go_roundw
       case rel => exact ⟨pre ++ [(k, j)], j, by rw [endRun_snoc], by omega, rfl, rfl, Lib.hid hJ3, Lib.hid (KP1.out.trans hk3)⟩
       case measure => simp [RowKit.intOf]; omega
      ·
       gi_wp2
       refine bodyPost_ret (results_none rfl _ _ _) rfl ?_
       exact ⟨⟨_, rfl⟩, .inr ⟨_, trivial, hx⟩⟩
    ·
     obtain rfl : j = xs.length := by omega
     have j1 : ¬ (xs.length : Int) < (xs.length : Int) := by omega
     have j2 : decide ((xs.length : Int) < (xs.length : Int)) = false := decide_eq_false j1
     have KJ := HLT
     have RUN : Hid (RunAt es k xs.length) := Lib.hid ⟨KJ.out, by have := HL.out; omega, SM.out, fun q => absurd q (by have := HL.out; omega)⟩
     gi_wp2
     refine wpIn_wide.2 ?_
     refine wp_region_held_drew (S := fun w' => Chg [] wo w') (by kernel_rfl) CD.out (fun hHeld => ?_)
     refine sy 0 10 rfl rfl ?_; try simp only [Act.put, sA, s0, s1]
     refine sy 1 11 rfl rfl ?_ (hy := by (intro w hSw; (try dsimp only at hSw); have q0 := CB.out _ hSw; go_simp; try with_reducible rfl))
     try simp only [Act.put, sA, s0, s1]
     refine sy 2 12 rfl rfl ?_; try simp only [Act.put, sA, s0, s1]
     refine sy 3 13 rfl rfl ?_; try simp only [Act.put, sA, s0, s1]
     refine sy 4 14 rfl rfl ?_; try simp only [Act.put, sA, s0, s1]
     refine sn 5 15 rfl rfl ?_; try simp only [Act.put, sA, s0, s1]
     refine sn 6 16 rfl rfl ?_; try simp only [Act.put, sA, s0, s1]
     refine sn 7 17 rfl rfl ?_; try simp only [Act.put, sA, s0, s1]
     refine sn 8 18 rfl rfl ?_; try simp only [Act.put, sA, s0, s1]
     refine sn 9 19 rfl rfl ?_; try simp only [Act.put, sA, s0, s1]
     refine sn 10 20 rfl rfl ?_; try simp only [Act.put, sA, s0, s1]
     refine sn 11 21 rfl rfl ?_; try simp only [Act.put, sA, s0, s1]
     refine sn 12 22 rfl rfl ?_; try simp only [Act.put, sA, s0, s1]
     refine sn 13 23 rfl rfl ?_; try simp only [Act.put, sA, s0, s1]
     refine sn 14 24 rfl rfl ?_; try simp only [Act.put, sA, s0, s1]
     refine sn 15 25 rfl rfl ?_; try simp only [Act.put, sA, s0, s1]
     refine sy 16 26 rfl rfl ?_; try simp only [Act.put, sA, s0, s1]
     refine wpAnyH_done (by kernel_rfl) ?_ _; clear hHeld CB XB SM
     have YD := NEXT.out KJ.out RUN.out
     have KJ2 := KJ.out
     have CD1 := CD
     have CB2 : wr.drew.cell? ⟨bs, 0, none⟩ = some (.slice (some ⟨g, o, none⟩) xs.length c) := by
      have q := CD.out.at_ ((KP.out.block bs HB.out.1 HB.out.2.1).trans HS.out) (by simp)
      simpa using cell_of q 0
     have SZ : Hid (n₁ ≤ wr.drew.heap.size) := Lib.hid (by have := HB.out.2.2; have := KP.out.size; have := CD.out.size; omega)
     have KP1 : Hid (Kpt n₁ T W wr.drew) := Lib.hid (KP.out.trans ((Kpt.of_chg CD.out (by have := HB.out.2.2; have := KP.out.size; omega)).mono (Nat.le_refl _) (by simp)))
     generalize wr.drew = w9 at *
     clear NEXT RX
     have m0 : (0 : Int) ≤ (xs.length : Int) := by omega
     have m1 : (k : Int) ≤ (xs.length : Int) := by omega
     have m2 : (xs.length : Int) ≤ (c : Int) := by have := HC.out; omega
     have m3 : ¬ xs.length = k := by omega
     have RA : runA (some ⟨g, o, none⟩) k = some ⟨g, o + k * 7, none⟩ := runA_some g o k
     rw [RA] at YD
     obtain ⟨fn, tmps, assign, body, hy, hR⟩ := YD
     gi_wp2_with fail
     refine hR.mono ?_
     rintro e W3 (⟨rfl, hJ3, hk3⟩ | ⟨rfl, hx⟩)
     ·
      gi_wp2
      go_roundw
      case rel => exact ⟨pre ++ [(k, xs.length)], xs.length, by rw [endRun_snoc], by omega, rfl, rfl, Lib.hid hJ3, Lib.hid (KP1.out.trans hk3)⟩
      case measure => simp [RowKit.intOf]; omega
     ·
      gi_wp2
      refine bodyPost_ret (results_none rfl _ _ _) rfl ?_
      exact ⟨⟨_, rfl⟩, .inr ⟨_, trivial, hx⟩⟩
  ·
   obtain rfl : k = xs.length := by omega
   have k1 : ¬ (xs.length : Int) < (xs.length : Int) := by omega
   gi_wp2
   go_end0
   exact ⟨⟨_, rfl⟩, .inl ⟨pre, by rw [← HK.out]; exact HL.out, JP.out⟩⟩
end
section
open Go.RowKit Go.Lib Go.Maps

theorem law_dot : Keyed Tryz.prog 24 := Keyed.of_law (deep_law_laid (by kernel_rfl) (m := 3) (by omega) (of_decide_eq_true (by kernel_rfl)) (by kernel_rfl) (by rw [Tryz.underlying24]))
theorem law_text : Keyed Tryz.prog 9 := string_keyed Tryz.underlying9
theorem zero_unit (w : World) : (zeroValue 80).run Tryz.prog w = .ok (.agg #[]) w := Tryz.zeroValue80 w
theorem keyDot (n s : Int) (hn : (Lit.int .i64 n).wf = true) (hs : (Lit.int .i64 s).wf = true) : keyOf Tryz.prog 24 (.agg #[.int .i64 n, .int .i64 s]) = some (.string (keyBytes [.int .i64 n, .int .i64 s])) := by
 have kt : Tryz.prog.keyType 24 = true := by kernel_rfl
 have c2 : Tryz.prog.cellsOf 24 = 2 := by kernel_rfl
 have c1 : Tryz.prog.cellsOf 3 = 1 := by kernel_rfl
 have fm : (Value.agg #[.int .i64 n, .int .i64 s]).formed Tryz.prog 24 = true := by simp [Value.formed, Tryz.underlying24, c2]
 obtain ⟨m, hm⟩ : ∃ m, Tryz.prog.types.size = m + 1 := ⟨Tryz.prog.types.size - 1, by have : 0 < Tryz.prog.types.size := of_decide_eq_true (by kernel_rfl); omega⟩
 have ki : ∀ a : Int, (Lit.int .i64 a).wf = true → Tryz.prog.keyLits (m + 1) 3 [.int .i64 a] = some [.int .i64 a] := fun a ha => by
  unfold Program.keyLits
  simp [Tryz.underlying3, ha]
 have kl : Tryz.prog.keyLits (Tryz.prog.types.size + 1) 24 [.int .i64 n, .int .i64 s] = some [.int .i64 n, .int .i64 s] := by
  rw [hm]
  unfold Program.keyLits
  simp [Tryz.underlying24, c2, c1, ki n hn, ki s hs]
 unfold keyOf
 rw [Tryz.underlying24]
 simp only [kt, fm, Bool.and_self, if_true]
 rw [show (Value.agg #[.int .i64 n, .int .i64 s]).cells.toList = [.int .i64 n, .int .i64 s] from rfl, kl]
 rfl
theorem keyText (l : List UInt8) (h : l.length ≤ maxLen) : keyOf Tryz.prog 9 (.string (strOf l)) = some (.string l) := by
 have := Go.WideMaps.keyOf_string_mk Tryz.underlying9 (s := strOf l) (by simpa [strOf, ByteArray.size] using h)
 rw [this]
 simp [strOf]
theorem dotLit_inj {a b : EvP} (ha : (Lit.int .i64 a.n).wf = true ∧ (Lit.int .i64 a.s).wf = true) (hb : (Lit.int .i64 b.n).wf = true ∧ (Lit.int .i64 b.s).wf = true) : dotLit a = dotLit b ↔ (a.n = b.n ∧ a.s = b.s) := by
 constructor
 ·
  intro h
  have h1 := keyDot a.n a.s ha.1 ha.2
  have h2 := keyDot b.n b.s hb.1 hb.2
  unfold dotLit at h
  rw [← h] at h2
  have := law_dot.inj h1 h2
  simpa using this
 ·
  rintro ⟨h1, h2⟩
  unfold dotLit
  rw [h1, h2]
end
section
open Go.RowKit

def noDefer (ops : Array Oper) : Bool := ops.toList.all fun o => match o.op with | .defer _ => false | _ => true
theorem noDefer_at {ops : Array Oper} (h : noDefer ops = true) {i : Nat} {o : Oper} (hi : ops[i]? = some o) : ∀ c, o.op ≠ .defer c := by
 intro c hc
 have hm : o ∈ ops.toList := by
  rw [← Array.getElem?_toList] at hi
  exact List.mem_of_getElem? hi
 have := List.all_eq_true.1 h o hm
 rw [hc] at this
 cases this
section
variable {P : Program} {l n : Nat} {ops : Array Oper} {Q : Exit → Act → World → Prop} {md : Region.Mode} {S : World → Prop}
theorem wp_toRound {o : Oper} {a : Act} {w : World} {K : Act → World → Prop} (hd : ∀ c, o.op ≠ .defer c) (h : o.wp P a w K Q) : o.wpIn (Fence.wide.inRound l) n P a w K Q := by
 refine ⟨fun _ _ => trivial, ?_⟩
 rw [Oper.semAt_plain _ _ _ hd]
 unfold Oper.wp at h
 generalize (execOp a.eval o).run P w = r at *
 cases r with
 | ok x w' =>
  cases x <;> simp only [Oper.upon, Oper.uponIn] at h ⊢
  case value u => exact h
  case skip => exact h
  case defer d => exact h
  case enter f args => exact ⟨fun hd => Bool.noConfusion hd, CallsIn.inRound l (callsIn_wide.2 h)⟩
  case row row args => exact ⟨fun hd => Bool.noConfusion hd, fun c cs _ => let ⟨v, w', r, s⟩ := h c cs; ⟨v, w', r, stepsIn_wide.2 s⟩⟩
 | halt x w' =>
  cases x <;> simp only [Oper.upon, Oper.uponIn] at h ⊢
  case panic u => exact h
theorem wpOp_toRound {i : Nat} {a : Act} {w : World} {K K' : Act → World → Prop} (hd : noDefer ops = true) (hL : ¬ LetsOut Q) (hK : ∀ a w, K a w → K' a w) (h : wpOp P ops Q i K a w) : wpOpIn (Fence.wide.inRound l) n P ops Q i K' a w := by
 unfold wpOp at h
 unfold wpOpIn
 cases ho : ops[i]? with
 | none => rw [ho] at h; exact hK _ _ h
 | some o =>
  rw [ho] at h
  by_cases hw : Region.wanted o (yielded ops a.tmps) = true
  ·
   simp only [hw, if_true] at h ⊢
   exact Oper.wpIn_mono hK (wp_toRound (noDefer_at hd ho) (h.resolve_right fun h => hL h.2))
  ·
   simp only [hw] at h ⊢
   exact ⟨fun _ _ => trivial, hK _ _ h⟩
theorem wpAny_toRound (hd : noDefer ops = true) (hL : ¬ LetsOut Q) : ∀ (fuel : Nat) (listed : Array Bool) (a : Act) (w : World), wpAny P md ops Q fuel listed a w → wpAnyIn (Fence.wide.inRound l) n P md ops Q fuel listed a w
 | 0, _, _, _, h => h
 | fuel + 1, _, _, _, h => ⟨h.1, fun i hi => wpOp_toRound hd hL (fun a w h => wpAny_toRound hd hL fuel _ a w h) (h.2 i hi)⟩
theorem wpIn_round_held {id : Nat} {a : Act} {w : World} (hm : P.follows .mixedOrders = true) (hd : noDefer ops = true) (hL : ¬ LetsOut Q) (hS : S w.drew)
  (h : S w.drew → wpAnyH P .any ops Q S ops.size (Array.replicate ops.size false) a w.drew) : (Code.region id ops true).wpIn (Fence.wide.inRound l) n P Q a w :=
 wpIn_region_any hm (wpAny_toRound hd hL _ _ _ _ (wpAny_of_held _ _ _ _ (h hS)))
end
end
section
open Go.RowKit Go.Lib


attribute [local go_sem] Oper.semAt_some
theorem RdK.run {w : World} {A : Option Addr} {xs : List EvT} (h : RdK evTy w A xs.length xs) {k m : Nat} (km : k < m) (hm : m ≤ xs.length) : RdK evTy w (runA A k) (segL xs k m).length (segL xs k m) := by
 rw [runA_sub (c := xs.length) (by omega), seg_len xs hm]
 exact h.sub (Nat.le_refl _) (Nat.le_of_lt km) hm
theorem ownsMap_chg {H : Type} {w w' : World} {S : List Nat} {P : Program} {k : TypeId} {R : Value → Option (DataW H × List MemPlace)} {b n : Nat} {D : DataW H} (h : w.ownsMap P k R b n D) (hc : Chg S w w') (hb : b ∉ S) : w'.ownsMap P k R b n D := by
 obtain ⟨es, clock, q, r⟩ := h
 exact ⟨es, clock, hc.at_ q hb, r⟩
theorem ownsMap_kpt {H : Type} {w w' : World} {S : List Nat} {P : Program} {k : TypeId} {R : Value → Option (DataW H × List MemPlace)} {b n m : Nat} {D : DataW H} (h : w.ownsMap P k R b n D) (hc : Kpt m S w w') (hm : b < m) (hb : b ∉ S) : w'.ownsMap P k R b n D := by
 obtain ⟨es, clock, q, r⟩ := h
 exact ⟨es, clock, (hc.block b hm hb).trans q, r⟩
def aheadV (A : Option Addr) (pre : List (Nat × Nat)) : Value := match pre.getLast? with
 | none => .slice none 0 0
 | some x => .slice (runA A x.1) (x.2 - x.1) (x.2 - x.1)
theorem aheadV_snoc (A : Option Addr) (pre : List (Nat × Nat)) (x : Nat × Nat) : aheadV A (pre ++ [x]) = .slice (runA A x.1) (x.2 - x.1) (x.2 - x.1) := by unfold aheadV; simp
theorem dotFine {e : EvP} (h : chkEv e = 0) : (Lit.int .i64 e.n).wf = true ∧ (Lit.int .i64 e.s).wf = true := by
 have q : EvOk e := by
  unfold chkEv at h
  split at h
  ·
   assumption
  ·
   cases h
 have f : chkD e.n e.s = 0 := q.1
 unfold chkD at f
 split at f
 ·
  rename_i d
  unfold FineD at d
  exact ⟨WalkArith.wf_i64 (by omega), WalkArith.wf_i64 (by omega)⟩
 ·
  cases f
theorem dotSetE_ok {es : List EvP} (h : StOk0 es) : Go.Maps.size (dotSetE es) ≤ es.length ∧ (¬ Go.Maps.size (dotSetE es) < es.length ↔ es.Pairwise dotNe) :=
 dotSetE_len es (fun a ha b hb => dotLit_inj (dotFine ((h.2 a ha).1 a (mem_atS.2 ⟨ha, rfl⟩))) (dotFine ((h.2 b hb).1 b (mem_atS.2 ⟨hb, rfl⟩))))
theorem stcheck_result (tmps : Array Value) (w : World) (g : Nat) (v : Value) (hp : tmps[2]?.getD undef = .pointer (some ⟨g, 0, none⟩)) (hc : w.cell? ⟨g, 0, none⟩ = some v) : (results Tryz.f15 tmps).run Tryz.prog w = .ok v w := by
 have h : Tryz.f15.results = #[.cell 2 35] := rfl
 simp [results, h, hp, asAddr, go_sem, loadVar, Tryz.underlying35, hc]

set_option maxRecDepth 100000 in
set_option maxHeartbeats 16000000 in
theorem stcheck_any (w : World) (A : Option Addr) (c : Nat) (xs : List EvT) (es : List EvP) (h : RdK evTy w A xs.length xs) (hc : xs.length ≤ c) (ho : xs = [] ∨ ∀ a, A = some a → a.block < w.heap.size) (hx : EvsR w xs es) (hn : xs.length ≤ 100000) (hs : ∀ e ∈ es, EvSm e) :
  Calls Tryz.prog 15 #[.slice A xs.length c] w fun r w' => r = .returned (.int .i64 (stE es)) ∧ Chg [] w w' := by

 refine (callsIn_wide (n := 6)).1 ?_
 refine callsIn_of_wp_marks Tryz.func15 rfl trivial ?_ rfl
 simp only [Tryz.ntmps15, List.size_toArray, List.length_cons, List.length_nil, Nat.reduceAdd, Nat.reduceSub, Array.replicate_succ, Array.replicate_zero, List.push_toArray, List.append_toArray, List.nil_append, List.cons_append]
 have hmm := @run_makeMap Tryz.prog
 obtain ⟨w1, hw1, c1, b0, b1, b2⟩ := news3 w (.cells #[.int .i64 0] 35) (.cells #[.slice none 0 0] 22) (.map #[] 0)
 obtain ⟨w2, hw2, c2, b3⟩ := news1 w1 (.cells #[.map (some (w.heap.size + 1 + 1))] 76)
 obtain ⟨w3, hw3, c3, b4⟩ := news1 w2 (.cells #[.slice A xs.length c] 22)
 have OWN0 : w1.ownsMap Tryz.prog 24 (unitElem (H := Unit)) (w.heap.size + 1 + 1) 0 (dotSetE []) := ⟨#[], 0, b2, ⟨by simp, Go.MapKept.stamped_empty 0, by simp⟩, Nat.le_refl _, rfl⟩
 have sz1 : w1.heap.size = w.heap.size + 3 := by rw [hw1]; simp
 have sz2 : w2.heap.size = w.heap.size + 4 := by rw [hw2]; simp [sz1]
 have sz3 : w3.heap.size = w.heap.size + 5 := by rw [hw3]; simp [sz2]
 have W1 := Lib.hid hw1
 have W2 := Lib.hid hw2
 have W3 := Lib.hid hw3
 have Q0 := Lib.hid (c3.at_ (c2.at_ b0 (by simp)) (by simp))
 have Q1 := Lib.hid (c3.at_ (c2.at_ b1 (by simp)) (by simp))
 have Q3 := Lib.hid (c3.at_ b3 (by simp))
 have Q4 := Lib.hid b4
 have QM := Lib.hid (ownsMap_chg OWN0 (c2.trans c3) (by simp))
 have C3 := Lib.hid (c1.trans (c2.trans c3))
 have SZ := Lib.hid (And.intro sz1 (And.intro sz2 sz3))
 rw [sz1] at Q3
 rw [sz2] at Q4
 clear hw1 hw2 hw3 c1 c2 c3 b0 b1 b2 b3 b4 OWN0 sz1 sz2 sz3
 gi_wp2_with (refine ⟨trivial, ?_⟩; gi_at_call 53; refine (callsIn_wide.2 (struns_any _ A xs.length c)).mono ?_; rintro e w9 ⟨rfl, rfl⟩)
 rw [← W1.out, ← W2.out, ← W3.out]
 obtain ⟨r0, h0⟩ : ∃ r, w.heap.size = r := ⟨_, rfl⟩
 obtain ⟨r1, h1⟩ : ∃ r, r0 + 1 = r := ⟨_, rfl⟩
 obtain ⟨r2, h2⟩ : ∃ r, r1 + 1 = r := ⟨_, rfl⟩
 obtain ⟨r3, h3⟩ : ∃ r, r2 + 1 = r := ⟨_, rfl⟩
 obtain ⟨r4, h4⟩ : ∃ r, r3 + 1 = r := ⟨_, rfl⟩
 rw [show w.heap.size + 3 = w.heap.size + 1 + 1 + 1 from rfl] at Q3
 rw [show w.heap.size + 4 = w.heap.size + 1 + 1 + 1 + 1 from rfl] at Q4
 rw [h0] at Q0 Q1 QM Q3 Q4 ⊢
 rw [h1] at Q1 QM Q3 Q4 ⊢
 rw [h2] at QM Q3 Q4 ⊢
 rw [h3] at Q3 Q4 ⊢
 rw [h4] at Q4 ⊢
 have RR : Hid (w.heap.size = r0 ∧ r1 = r0 + 1 ∧ r2 = r0 + 2 ∧ r3 = r0 + 3 ∧ r4 = r0 + 4 ∧ w3.heap.size = r0 + 5) := Lib.hid (by have := SZ.out; omega)
 have HA := Lib.hid h
 have HC := Lib.hid hc
 have HO := Lib.hid ho
 have HX := Lib.hid hx
 have HN := Lib.hid hn
 have HS := Lib.hid hs
 clear W1 W2 W3 SZ h0 h1 h2 h3 h4 h hc ho hx hn hs hmm
 have XP : Hid (∀ (i : Nat) (x : EvT) (e : EvP), xs[i]? = some x → es[i]? = some e → x.p = strOf e.p) := Lib.hid (fun i x e a b => (HX.out.2 i x e a b).p)
 have BLK : Hid (xs = [] ∨ ∀ a, A = some a → a.block < w3.heap.size ∧ a.block ∉ [r0, r1, r2]) := Lib.hid (HO.out.imp id (fun q a ha => by have := q a ha; have := RR.out; exact ⟨by omega, by simp; omega⟩))
 refine range_brkm (gf := 115) (lb := #[.pointer (some ⟨r4, 0, none⟩)]) rfl (enters_of Tryz.func115 (by kernel_rfl) rfl) (encs := fun x : Nat × Nat => #[.slice (runA A x.1) (x.2 - x.1) (x.2 - x.1)]) (n₁ := w3.heap.size) (Nat.le_refl _)
  (S := fun ys => endRun ys = es.length) (Sp := fun _ => True) (Ex := fun pre x _ => x.1 = endRun pre ∧ RunAt es x.1 x.2) (Si := []) (T := [r0, r1, r2]) ?si ?seq (fun _ => rfl)
  (fun pre W => (W.heap[r0]? = some (.cells #[.int .i64 0] 35 (0, 0)) ∧ W.heap[r1]? = some (.cells #[aheadV A pre] 22 (0, 0)) ∧ W.heap[r3]? = some (.cells #[.map (some r2)] 76 (0, 0))) ∧ W.ownsMap Tryz.prog 24 (unitElem (H := Unit)) r2 (endRun pre) (dotSetE (es.take (endRun pre))) ∧ (StOk0 (es.take (endRun pre)) ∧ ∀ x ∈ pre.getLast?, RunAt es x.1 x.2) ∧ Chg [] w W ∧ w3.heap.size ≤ W.heap.size)
  (fun c pre W => c = .ret ∧ W.heap[r0]? = some (.cells #[.int .i64 2] 35 (0, 0)) ∧ ¬ StOk es ∧ Chg [] w W)
  ?keep ?keepx ?start ?elem
  (fun x => { tmps := #[.slice A xs.length c, undef, .pointer (some ⟨r0, 0, none⟩), .pointer (some ⟨r1, 0, none⟩), .pointer (some ⟨r3, 0, none⟩), .slice (runA A x.1) (x.2 - x.1) (x.2 - x.1), undef, undef, .map (some r2), .slice A xs.length c, .func (.func 115) #[] #[.pointer (some ⟨r4, 0, none⟩)], .slice (runA A x.1) (x.2 - x.1) (x.2 - x.1), undef, undef, undef, undef, undef, undef, undef, undef, undef, undef, undef, undef, undef, undef, undef, undef, undef, undef, undef, undef, undef, undef, undef, undef, undef, undef, undef, undef, undef, undef, undef, undef, undef, undef, undef, undef, undef], defers := [] }) ?assign ?body ?done ?stop
 case si => simp
 case start => exact ⟨⟨Q0.out, Q1.out, Q3.out⟩, QM.out, ⟨st0_nil, by simp⟩, C3.out, Nat.le_refl _⟩
 case seq =>
  intro l' J Jx W hW hJ hJx hY h0
  have hs2 := hW.size
  refine runs1_gives 4 l' w3.heap.size r4 [r0, r1, r2] A c xs es J Jx W (by have := RR.out; omega) (by have := RR.out; simp; omega) (by omega) BLK.out (fun pre A B h1 h2 hc => hJ pre A B h2 (Kpt.of_chg hc h1)) HX.out.1 XP.out (HA.out.chg (C3.out.trans (Chg.ofBelow hW (Nat.le_refl _) [])) (by simp)) HC.out HN.out ((hW.block _ (by have := RR.out; omega)).trans Q4.out) hY h0
 case keep =>
  rintro pre A' B' ⟨⟨e0, e1, e3⟩, ow, ok, hC, hz⟩ hb
  have rr := RR.out
  exact ⟨⟨(hb.block _ (by omega) (by simp)).trans e0, (hb.block _ (by omega) (by simp)).trans e1, (hb.block _ (by omega) (by simp)).trans e3⟩, ownsMap_kpt ow hb (by omega) (by simp), ok, ((Kpt.of_chg hC (Nat.le_refl _)).trans (hb.mono (by omega) (by simp))).chg, Nat.le_trans hz hb.size⟩
 case keepx =>
  rintro c pre A' B' ⟨hc, e0, no, hC⟩ hb
  have rr := RR.out
  exact ⟨hc, (hb.block _ (by omega) (by simp)).trans e0, no, ((Kpt.of_chg hC (Nat.le_refl _)).trans (hb.mono (by omega) (by simp))).chg⟩
 case elem =>
  rintro pre x W l o o' hl ho hx
  exact hx
 case assign =>
  intro l x W K hK
  gi_wp2
  exact hK
 case body =>
  rintro l' pre ⟨k, m⟩ W hsz ⟨⟨e0, e1, e3⟩, ow, ⟨ok0, hlast⟩, hC, hz⟩ ⟨hk, hrun⟩
  have rr := RR.out
  dsimp only at hk hrun ⊢
  rw [← hk] at ow ok0
  have km := hrun.lt
  have mn : m ≤ xs.length := by have := hrun.le; have := HX.out.1; omega
  have RA := Lib.hid (HA.out.chg hC (by simp))
  obtain ⟨g, o, eA, _⟩ := RA.out.line (by omega)
  subst eA
  obtain ⟨b, hb⟩ : ∃ b, es[k]? = some b := ⟨_, List.getElem?_eq_getElem (by have := HX.out.1; omega)⟩
  obtain ⟨x0, hx0⟩ : ∃ x, xs[k]? = some x := ⟨_, List.getElem?_eq_getElem (by omega)⟩
  have SB : Hid (x0.p = strOf b.p) := Lib.hid (XP.out k x0 b hx0 hb)
  have LEN : Hid ((segL xs k m).length = m - k) := Lib.hid (seg_len xs mn)
  have SHC : Hid (∀ w', Chg [] W w' → Calls Tryz.prog 54 #[.slice (some ⟨g, o + k * 7, none⟩) (m - k) (m - k)] w' fun r w2 => r = .returned (.int .i64 (shE (segL es k m))) ∧ Chg [] w' w2) := Lib.hid (fun w' hc => by
   have q := shcheck_any w' (runA (some ⟨g, o, none⟩) k) (m - k) (segL xs k m) (segL es k m) ((RA.out.chg hc (by simp)).run km mn) ((HX.out.chg (hC.trans hc)).seg k m) (by rw [LEN.out]; have := HN.out; omega) (fun e he => HS.out e (by unfold segL at he; exact List.mem_of_mem_take (List.mem_of_mem_drop he)))
   rwa [runA_some, LEN.out] at q)
  have ZK : Hid (∀ w', Chg [] W w' → w'.cell? ⟨g, o + k * 7 + 2, none⟩ = some (.string (strOf b.p))) := Lib.hid (fun w' hc => by
   have q := (evCells (RA.out.chg hc (by simp)) hx0).2.2.1
   rwa [SB.out] at q)
  have PTH : Hid (∀ e ∈ es, e.p.length ≤ 10000000) := Lib.hid (fun e he => (HS.out e he).1)
  have EB := Lib.hid hb
  have HRUN := Lib.hid hrun
  have OW := Lib.hid ow
  have OK0 := Lib.hid ok0
  have HK := Lib.hid hk
  have CW := Lib.hid hC
  have E0 := Lib.hid e0
  have E1 := Lib.hid e1
  have E3 := Lib.hid e3
  have HZ := Lib.hid hz
  have HSZ := Lib.hid hsz
  have KM := Lib.hid (And.intro km mn)
  have LAST := Lib.hid hlast
  have c1H : Hid (∀ w', Chg [] W w' → w'.cell? ⟨r1, 0, none⟩ = some (aheadV (some ⟨g, o, none⟩) pre)) := Lib.hid (fun w' hc => by
   have q := cell_of (hc.at_ E1.out (by simp)) 0
   simpa using q)
  have mk0 : 0 < m - k := by omega
  simp only [runA_some]
  clear hb hx0 hrun ow ok0 hk hC e0 e1 e3 hz hsz km mn hlast rr
  rcases shE_two (segL es k m) with ev | ev
  rotate_left
  ·
   skip
   have EV := Lib.hid ev
   have NO : Hid (¬ StOk es) := Lib.hid (run_bad1 HRUN.out EB.out (fun q => by rw [shE_zero.2 q] at ev; cases ev))
   clear ev
   gi_wp2
   refine wpIn_round_held (S := fun w' => Chg [] W w') (by kernel_rfl) (by kernel_rfl) (by rintro ⟨a9, w9, h9⟩; exact h9) (Chg.refl [] W).drew (fun hHeld => ?_)
   refine sy 0 12 rfl rfl ?_; try simp only [Act.put, sA, s0, s1]
   refine wpAnyH_ready (rs := [1]) (by kernel_rfl) (by simp) ?_; refine AllReadyH.cons rfl (fun K hK => ?_) AllReadyH.nil; replace hK := Lib.hid hK; go_simp
   refine (SHC.out _ hHeld).mono ?_
   rintro r w5 ⟨rfl, hc⟩
   rw [EV.out]
   have C5 := Lib.hid (hHeld.trans hc)
   clear hc hHeld
   refine hK.out _ _ C5.out (fun hHeld => ?_)
   clear hK K; try simp only [Act.put, sA, s0, s1]
   refine sy 2 14 rfl rfl ?_; try simp only [Act.put, sA, s0, s1]
   refine sy 3 15 rfl rfl ?_; try simp only [Act.put, sA, s0, s1]
   refine sn 4 16 rfl rfl ?_; try simp only [Act.put, sA, s0, s1]
   refine sn 5 17 rfl rfl ?_; try simp only [Act.put, sA, s0, s1]
   refine sn 6 18 rfl rfl ?_; try simp only [Act.put, sA, s0, s1]
   refine sn 7 19 rfl rfl ?_; try simp only [Act.put, sA, s0, s1]
   refine sn 8 20 rfl rfl ?_; try simp only [Act.put, sA, s0, s1]
   refine sn 9 21 rfl rfl ?_; try simp only [Act.put, sA, s0, s1]
   refine sn 10 22 rfl rfl ?_; try simp only [Act.put, sA, s0, s1]
   refine sn 11 23 rfl rfl ?_; try simp only [Act.put, sA, s0, s1]
   refine sn 12 24 rfl rfl ?_; try simp only [Act.put, sA, s0, s1]
   refine sn 13 25 rfl rfl ?_; try simp only [Act.put, sA, s0, s1]
   refine sn 14 26 rfl rfl ?_; try simp only [Act.put, sA, s0, s1]
   refine sn 15 27 rfl rfl ?_; try simp only [Act.put, sA, s0, s1]
   refine sn 16 28 rfl rfl ?_; try simp only [Act.put, sA, s0, s1]
   refine sn 17 29 rfl rfl ?_; try simp only [Act.put, sA, s0, s1]
   refine sn 18 30 rfl rfl ?_; try simp only [Act.put, sA, s0, s1]
   refine sy 19 31 rfl rfl ?_; try simp only [Act.put, sA, s0, s1]
   refine wpAnyH_done (by kernel_rfl) ?_ _; clear hHeld SHC ZK
   have q5 := (C5.out.at_ E0.out (by simp))
   have f5 := free_of q5 0
   have z5 := cell_of q5 0
   simp only [List.getElem?_toArray, List.getElem?_cons_zero] at z5
   have Q5 := Lib.hid q5
   clear q5
   gi_wp2
   refine ⟨?_, rfl, by simpa using heap_setCell_same _ r0 0 _ _ (.int .i64 2) Q5.out, NO.out, CW.out.trans' (C5.out.mono (S' := [r0]) (by simp)) (fun z hz => .inr (by have := RR.out; simp at hz; omega)) |>.setCell (p := ⟨r0, 0, none⟩) (.inr (by have := RR.out; show w.heap.size ≤ r0; omega)) _⟩
   exact KeepsTwo.of_chg ((C5.out.mono (S' := [r0]) (by simp)).setCell (p := ⟨r0, 0, none⟩) (.inl (by simp)) _) (fun z hz => by have := RR.out; simp at hz; omega) HSZ.out
  have EV := Lib.hid ev
  have SHK : Hid (ShOk (segL es k m)) := Lib.hid (shE_zero.1 ev)
  clear ev
  rcases hp : pre.getLast? with _ | ⟨j, k2⟩
  ·
   skip
   have K0 : Hid (k = 0) := Lib.hid (by rw [HK.out]; unfold endRun; rw [hp]; rfl)
   have AV : Hid (aheadV (some ⟨g, o, none⟩) pre = .slice none 0 0) := Lib.hid (by unfold aheadV; rw [hp])
   rw [AV.out] at c1H E1
   have NX : Hid (StOk0 (es.take m)) := Lib.hid (run_step (j := 0) (a := b) OK0.out HRUN.out EB.out SHK.out (.inl K0.out))
   clear hp
   gi_wp2
   refine wpIn_round_held (S := fun w' => Chg [] W w') (by kernel_rfl) (by kernel_rfl) (by rintro ⟨a9, w9, h9⟩; exact h9) (Chg.refl [] W).drew (fun hHeld => ?_)
   refine sy 0 12 rfl rfl ?_; try simp only [Act.put, sA, s0, s1]
   refine wpAnyH_ready (rs := [1]) (by kernel_rfl) (by simp) ?_; refine AllReadyH.cons rfl (fun K hK => ?_) AllReadyH.nil; replace hK := Lib.hid hK; go_simp
   refine (SHC.out _ hHeld).mono ?_
   rintro r w5 ⟨rfl, hc⟩
   rw [EV.out]
   have C5 := Lib.hid (hHeld.trans hc)
   clear hc hHeld
   refine hK.out _ _ C5.out (fun hHeld => ?_)
   clear hK K; try simp only [Act.put, sA, s0, s1]
   refine sy 2 14 rfl rfl ?_; try simp only [Act.put, sA, s0, s1]
   refine sy 3 15 rfl rfl ?_; try simp only [Act.put, sA, s0, s1]
   refine sy 4 16 rfl rfl ?_ (hy := by (intro w hSw; (try dsimp only at hSw); have q1 := c1H.out _ hSw; go_simp; try with_reducible rfl))
   try simp only [Act.put, sA, s0, s1]
   refine sy 5 17 rfl rfl ?_; try simp only [Act.put, sA, s0, s1]
   refine sy 6 18 rfl rfl ?_; try simp only [Act.put, sA, s0, s1]
   refine sy 7 19 rfl rfl ?_; try simp only [Act.put, sA, s0, s1]
   refine sn 8 20 rfl rfl ?_; try simp only [Act.put, sA, s0, s1]
   refine sn 9 21 rfl rfl ?_; try simp only [Act.put, sA, s0, s1]
   refine sn 10 22 rfl rfl ?_; try simp only [Act.put, sA, s0, s1]
   refine sn 11 23 rfl rfl ?_; try simp only [Act.put, sA, s0, s1]
   refine sn 12 24 rfl rfl ?_; try simp only [Act.put, sA, s0, s1]
   refine sn 13 25 rfl rfl ?_; try simp only [Act.put, sA, s0, s1]
   refine sn 14 26 rfl rfl ?_; try simp only [Act.put, sA, s0, s1]
   refine sn 15 27 rfl rfl ?_; try simp only [Act.put, sA, s0, s1]
   refine sn 16 28 rfl rfl ?_; try simp only [Act.put, sA, s0, s1]
   refine sn 17 29 rfl rfl ?_; try simp only [Act.put, sA, s0, s1]
   refine sy 18 30 rfl rfl ?_; try simp only [Act.put, sA, s0, s1]
   refine sy 19 31 rfl rfl ?_; try simp only [Act.put, sA, s0, s1]
   refine wpAnyH_done (by kernel_rfl) ?_ _; clear hHeld; have CA := C5
   have OWN5 := Lib.hid (ownsMap_chg OW.out C5.out (by simp))
   have HR5 : Hid (∀ w', Chg [r2] w5 w' → ∀ q x, (segL xs k m)[q]? = some x → _) := Lib.hid (fun w' hc q x hx => evCells (runA_some g o k ▸ ((RA.out.chg C5.out (by simp)).chg hc (fun a ha => by cases ha; have := BLK.out.resolve_left (by intro z; rw [z] at hx; simp [segL] at hx) _ rfl; have := this.2; simp at this ⊢; omega)).run KM.out.1 KM.out.2) hx)
   clear SHC ZK c1H OW
   gi_wp2
   gi_loopw [34] (fun v34 wq => ∃ (q : Nat), q ≤ m - k ∧ v34 = .int .i64 (q : Int) ∧ Hid (wq.ownsMap Tryz.prog 24 (unitElem (H := Unit)) r2 (k + q) (dotSetE (es.take (k + q)))) ∧ Hid (Chg [r2] w5 wq)) (fun v34 _ => m - k - (RowKit.intOf v34).toNat)
   case atStart => exact ⟨0, Nat.zero_le _, rfl, OWN5, Lib.hid (Chg.refl _ _)⟩
   case round =>
    obtain ⟨q, hq, rfl, OQ, CQ⟩ := hrel
    have q0 : (0 : Int) ≤ (q : Int) := by omega
    by_cases hlt : q < m - k
    ·
     have q1 : (q : Int) < ((m - k : Nat) : Int) := by omega
     have q3 : IntKind.i64.wrap ((q : Int) + 1) = (q : Int) + 1 := IntWalk.i64_in _ (by have := KM.out; have := HN.out; omega)
     obtain ⟨x, e, ex, ee, rx⟩ := HX.out.at_ (show k + q < xs.length by have := KM.out; omega)
     obtain ⟨z0, z1, z2, z3, z4, z5, z6⟩ := HR5.out wr CQ.out q x (by rw [seg_get xs (by omega)]; exact ex)
     have KEY := Lib.hid (keyDot e.n e.s (dotFine (SHK.out.1 e (List.mem_of_getElem? (show (segL es k m)[q]? = some e by rw [seg_get es (by omega)]; exact ee)))).1 (dotFine (SHK.out.1 e (List.mem_of_getElem? (show (segL es k m)[q]? = some e by rw [seg_get es (by omega)]; exact ee)))).2)
     have NEXT : Hid ((dotSetE (es.take (k + q))).put (dotLit e) (.agg []) = dotSetE (es.take (k + (q + 1)))) := Lib.hid (by rw [← dotSetE_snoc, show k + (q + 1) = (k + q) + 1 by omega, List.take_add_one, ee]; rfl)
     have EN : Hid (x.n = e.n ∧ x.s = e.s) := Lib.hid ⟨rx.n, rx.s⟩
     obtain ⟨w6, hw6, c6, b6⟩ := news1 wr (.cells #[.int .i64 x.n, .int .i64 x.s, .string x.p, .int .i64 x.k, .int .i64 x.m, .slice x.A x.l x.c, .slice x.B x.bl x.bc] 30)
     have W6 := Lib.hid hw6
     have y0 := cell_of b6 0
     have y1 := cell_of b6 1
     simp only [List.getElem?_toArray, List.getElem?_cons_succ, List.getElem?_cons_zero] at y0 y1
     rw [EN.out.1] at y0
     rw [EN.out.2] at y1
     have m3 : w6.cell? ⟨r3, 0, none⟩ = some (.map (some r2)) := by
      have p := c6.at_ (CQ.out.at_ (C5.out.at_ E3.out (by simp)) (by have := RR.out; simp; omega)) (by simp)
      simpa using cell_of p 0
     have OW6 := Lib.hid (ownsMap_chg OQ.out c6 (by simp))
     have C6 := Lib.hid (CQ.out.trans (c6.mono (S' := [r2]) (by simp)))
     clear ex ee rx hw6 c6 b6 OQ
     gi_upto_region 10 with fail
     rw [← W6.out]
     generalize wr.heap.size = g6 at *
     clear W6 z0 z1 z2 z3 z4 z5 z6
     gi_wp2_with (gi_at_mapUpdate; refine wpListIn_mapUpdate_own _ rfl _ _ _ 76 rfl 24 80 law_dot Tryz.underlying76 (unitElem (H := Unit)) r2 (k + q) _ rfl OW6.out (by have := KM.out; have := HN.out; unfold maxLen; omega) _ _ _ rfl rfl KEY.out (.agg []) [] unitElem_mk ?_; intro w7 own7 grow7)
     have OW7 : Hid (w7.ownsMap Tryz.prog 24 (unitElem (H := Unit)) r2 (k + (q + 1)) (dotSetE (es.take (k + (q + 1))))) := Lib.hid (by rw [← NEXT.out]; exact own7)
     have C7 := Lib.hid (C6.out.grown grow7 (fun i hi => by simp at hi; subst hi; exact .inl (by simp)))
     clear own7 grow7 y0 y1 m3
     gi_wp2
     go_roundw
     case rel => exact ⟨q + 1, by omega, by go_num, OW7, C7⟩
     case measure => simp [RowKit.intOf]; omega
    ·
     obtain rfl : q = m - k := by omega
     have q1 : ¬ ((m - k : Nat) : Int) < ((m - k : Nat) : Int) := by omega
     have q5 := CQ.out.at_ (C5.out.at_ E1.out (by simp)) (by have := RR.out; simp; omega)
     have f5 := free_of q5 0
     have z5 := cell_of q5 0
     simp only [List.getElem?_toArray, List.getElem?_cons_zero] at z5
     have Q5 := Lib.hid q5
     clear q5
     have OQ2 : Hid (wr.ownsMap Tryz.prog 24 (unitElem (H := Unit)) r2 m (dotSetE (es.take m))) := Lib.hid (by have q := OQ.out; rwa [show k + (m - k) = m by have := KM.out; omega] at q)
     gi_wp2
     have CST := Lib.hid ((Chg.refl [r1] wr).setCell (p := ⟨r1, 0, none⟩) (.inl (by simp)) (.slice (some ⟨g, o + k * 7, none⟩) (m - k) (m - k)))
     have CALL := Lib.hid (((C5.out.mono (S' := [r0, r1, r2]) (by simp)).trans (CQ.out.mono (by simp))).trans (CST.out.mono (by simp)))
     refine ⟨KeepsTwo.of_chg CALL.out (fun z hz => by have := RR.out; simp at hz; omega) HSZ.out, Kpt.of_chg CALL.out HZ.out, ⟨CST.out.at_ (CQ.out.at_ (C5.out.at_ E0.out (by simp)) (by have := RR.out; simp; omega)) (by have := RR.out; simp; omega), ?_, CST.out.at_ (CQ.out.at_ (C5.out.at_ E3.out (by simp)) (by have := RR.out; simp; omega)) (by have := RR.out; simp; omega)⟩, ?_, ⟨?_, ?_⟩, ?_, Nat.le_trans HZ.out CALL.out.size⟩
     ·
      rw [aheadV_snoc, runA_some]
      simpa using heap_setCell_same wr r1 0 _ _ _ Q5.out
     ·
      rw [endRun_snoc]
      exact ownsMap_chg OQ2.out CST.out (by have := RR.out; simp; omega)
     ·
      rw [endRun_snoc]
      exact NX.out
     ·
      intro x1 x2 hx
      have e : (pre ++ [(k, m)]).getLast? = some (k, m) := by simp
      rw [e] at hx
      cases hx
      exact HRUN.out
     ·
      exact CW.out.trans' CALL.out (fun z hz => .inr (by have := RR.out; simp at hz; omega))
  have K2 : k2 = k := by rw [HK.out]; unfold endRun; rw [hp]; rfl
  subst K2
  have RJ : Hid (RunAt es j k2) := Lib.hid (LAST.out (j, k2) hp)
  have jk := RJ.out.lt
  obtain ⟨a, ha⟩ : ∃ a, es[j]? = some a := ⟨_, List.getElem?_eq_getElem (by have := HX.out.1; have := KM.out; omega)⟩
  obtain ⟨xa, hxa⟩ : ∃ x, xs[j]? = some x := ⟨_, List.getElem?_eq_getElem (by have := KM.out; omega)⟩
  have AV : Hid (aheadV (some ⟨g, o, none⟩) pre = .slice (some ⟨g, o + j * 7, none⟩) (k2 - j) (k2 - j)) := Lib.hid (by unfold aheadV; rw [hp]; simp only [runA_some])
  rw [AV.out] at c1H E1
  have ZJ : Hid (∀ w', Chg [] W w' → w'.cell? ⟨g, o + j * 7 + 2, none⟩ = some (.string (strOf a.p))) := Lib.hid (fun w' hc => by
   have q := (evCells (RA.out.chg hc (by simp)) hxa).2.2.1
   rwa [XP.out j xa a hxa ha] at q)
  have LS := Lib.hid (fun w' => phless_any w' a.p b.p (PTH.out a (List.mem_of_getElem? ha)) (PTH.out b (List.mem_of_getElem? EB.out)))
  have EA := Lib.hid ha
  have kj0 : 0 < k2 - j := by omega
  have kj1 : (0 : Int) < ((k2 - j : Nat) : Int) := by omega
  clear hp jk ha hxa
  rcases hlv : lessL a.p b.p with _ | _
  ·
   skip
   have LV := Lib.hid hlv
   have NO : Hid (¬ StOk es) := Lib.hid (run_bad2 RJ.out EA.out EB.out hlv)
   clear hlv
   gi_wp2
   refine wpIn_round_held (S := fun w' => Chg [] W w') (by kernel_rfl) (by kernel_rfl) (by rintro ⟨a9, w9, h9⟩; exact h9) (Chg.refl [] W).drew (fun hHeld => ?_)
   refine sy 0 12 rfl rfl ?_; try simp only [Act.put, sA, s0, s1]
   refine wpAnyH_ready (rs := [1]) (by kernel_rfl) (by simp) ?_; refine AllReadyH.cons rfl (fun K hK => ?_) AllReadyH.nil; replace hK := Lib.hid hK; go_simp
   refine (SHC.out _ hHeld).mono ?_
   rintro r w5 ⟨rfl, hc⟩
   rw [EV.out]
   have C5 := Lib.hid (hHeld.trans hc)
   clear hc hHeld
   refine hK.out _ _ C5.out (fun hHeld => ?_)
   clear hK K; try simp only [Act.put, sA, s0, s1]
   refine sy 2 14 rfl rfl ?_; try simp only [Act.put, sA, s0, s1]
   refine sy 3 15 rfl rfl ?_; try simp only [Act.put, sA, s0, s1]
   refine sy 4 16 rfl rfl ?_ (hy := by (intro w hSw; (try dsimp only at hSw); have q1 := c1H.out _ hSw; go_simp; try with_reducible rfl))
   try simp only [Act.put, sA, s0, s1]
   refine sy 5 17 rfl rfl ?_; try simp only [Act.put, sA, s0, s1]
   refine sy 6 18 rfl rfl ?_; try simp only [Act.put, sA, s0, s1]
   refine sy 7 19 rfl rfl ?_; try simp only [Act.put, sA, s0, s1]
   refine sy 8 20 rfl rfl ?_ (hy := by (intro w hSw; (try dsimp only at hSw); have q1 := c1H.out _ hSw; go_simp; try with_reducible rfl))
   try simp only [Act.put, sA, s0, s1]
   refine sy 9 21 rfl rfl ?_; try simp only [Act.put, sA, s0, s1]
   refine sy 10 22 rfl rfl ?_; try simp only [Act.put, sA, s0, s1]
   refine sy 11 23 rfl rfl ?_ (hy := by (intro w hSw; (try dsimp only at hSw); have qj := ZJ.out _ hSw; go_simp; try with_reducible rfl))
   try simp only [Act.put, sA, s0, s1]
   refine sy 12 24 rfl rfl ?_; try simp only [Act.put, sA, s0, s1]
   refine sy 13 25 rfl rfl ?_; try simp only [Act.put, sA, s0, s1]
   refine sy 14 26 rfl rfl ?_; try simp only [Act.put, sA, s0, s1]
   refine sy 15 27 rfl rfl ?_ (hy := by (intro w hSw; (try dsimp only at hSw); have qk := ZK.out _ hSw; go_simp; try with_reducible rfl))
   try simp only [Act.put, sA, s0, s1]
   refine wpAnyH_ready (rs := [16]) (by kernel_rfl) (by simp) ?_; refine AllReadyH.cons rfl (fun K hK => ?_) AllReadyH.nil; replace hK := Lib.hid hK; go_simp
   refine (LS.out _).mono ?_
   rintro r w5 ⟨rfl, hc⟩
   rw [LV.out]
   have C5 := Lib.hid (hHeld.trans hc)
   clear hc hHeld
   refine hK.out _ _ C5.out (fun hHeld => ?_)
   clear hK K; try simp only [Act.put, sA, s0, s1]
   refine sy 17 29 rfl rfl ?_; try simp only [Act.put, sA, s0, s1]
   refine sy 18 30 rfl rfl ?_; try simp only [Act.put, sA, s0, s1]
   refine sy 19 31 rfl rfl ?_; try simp only [Act.put, sA, s0, s1]
   refine wpAnyH_done (by kernel_rfl) ?_ _; clear hHeld SHC ZK ZJ LS
   have q5 := (C5.out.at_ E0.out (by simp))
   have f5 := free_of q5 0
   have z5 := cell_of q5 0
   simp only [List.getElem?_toArray, List.getElem?_cons_zero] at z5
   have Q5 := Lib.hid q5
   clear q5
   gi_wp2
   refine ⟨?_, rfl, by simpa using heap_setCell_same _ r0 0 _ _ (.int .i64 2) Q5.out, NO.out, CW.out.trans' (C5.out.mono (S' := [r0]) (by simp)) (fun z hz => .inr (by have := RR.out; simp at hz; omega)) |>.setCell (p := ⟨r0, 0, none⟩) (.inr (by have := RR.out; show w.heap.size ≤ r0; omega)) _⟩
   exact KeepsTwo.of_chg ((C5.out.mono (S' := [r0]) (by simp)).setCell (p := ⟨r0, 0, none⟩) (.inl (by simp)) _) (fun z hz => by have := RR.out; simp at hz; omega) HSZ.out
  have LV := Lib.hid hlv
  have NX : Hid (StOk0 (es.take m)) := Lib.hid (run_step OK0.out HRUN.out EB.out SHK.out (.inr ⟨RJ.out, EA.out, hlv⟩))
  clear hlv
  gi_wp2
  refine wpIn_round_held (S := fun w' => Chg [] W w') (by kernel_rfl) (by kernel_rfl) (by rintro ⟨a9, w9, h9⟩; exact h9) (Chg.refl [] W).drew (fun hHeld => ?_)
  refine sy 0 12 rfl rfl ?_; try simp only [Act.put, sA, s0, s1]
  refine wpAnyH_ready (rs := [1]) (by kernel_rfl) (by simp) ?_; refine AllReadyH.cons rfl (fun K hK => ?_) AllReadyH.nil; replace hK := Lib.hid hK; go_simp
  refine (SHC.out _ hHeld).mono ?_
  rintro r w5 ⟨rfl, hc⟩
  rw [EV.out]
  have C5 := Lib.hid (hHeld.trans hc)
  clear hc hHeld
  refine hK.out _ _ C5.out (fun hHeld => ?_)
  clear hK K; try simp only [Act.put, sA, s0, s1]
  refine sy 2 14 rfl rfl ?_; try simp only [Act.put, sA, s0, s1]
  refine sy 3 15 rfl rfl ?_; try simp only [Act.put, sA, s0, s1]
  refine sy 4 16 rfl rfl ?_ (hy := by (intro w hSw; (try dsimp only at hSw); have q1 := c1H.out _ hSw; go_simp; try with_reducible rfl))
  try simp only [Act.put, sA, s0, s1]
  refine sy 5 17 rfl rfl ?_; try simp only [Act.put, sA, s0, s1]
  refine sy 6 18 rfl rfl ?_; try simp only [Act.put, sA, s0, s1]
  refine sy 7 19 rfl rfl ?_; try simp only [Act.put, sA, s0, s1]
  refine sy 8 20 rfl rfl ?_ (hy := by (intro w hSw; (try dsimp only at hSw); have q1 := c1H.out _ hSw; go_simp; try with_reducible rfl))
  try simp only [Act.put, sA, s0, s1]
  refine sy 9 21 rfl rfl ?_; try simp only [Act.put, sA, s0, s1]
  refine sy 10 22 rfl rfl ?_; try simp only [Act.put, sA, s0, s1]
  refine sy 11 23 rfl rfl ?_ (hy := by (intro w hSw; (try dsimp only at hSw); have qj := ZJ.out _ hSw; go_simp; try with_reducible rfl))
  try simp only [Act.put, sA, s0, s1]
  refine sy 12 24 rfl rfl ?_; try simp only [Act.put, sA, s0, s1]
  refine sy 13 25 rfl rfl ?_; try simp only [Act.put, sA, s0, s1]
  refine sy 14 26 rfl rfl ?_; try simp only [Act.put, sA, s0, s1]
  refine sy 15 27 rfl rfl ?_ (hy := by (intro w hSw; (try dsimp only at hSw); have qk := ZK.out _ hSw; go_simp; try with_reducible rfl))
  try simp only [Act.put, sA, s0, s1]
  refine wpAnyH_ready (rs := [16]) (by kernel_rfl) (by simp) ?_; refine AllReadyH.cons rfl (fun K hK => ?_) AllReadyH.nil; replace hK := Lib.hid hK; go_simp
  refine (LS.out _).mono ?_
  rintro r w5 ⟨rfl, hc⟩
  rw [LV.out]
  have C5 := Lib.hid (hHeld.trans hc)
  clear hc hHeld
  refine hK.out _ _ C5.out (fun hHeld => ?_)
  clear hK K; try simp only [Act.put, sA, s0, s1]
  refine sy 17 29 rfl rfl ?_; try simp only [Act.put, sA, s0, s1]
  refine sy 18 30 rfl rfl ?_; try simp only [Act.put, sA, s0, s1]
  refine sy 19 31 rfl rfl ?_; try simp only [Act.put, sA, s0, s1]
  refine wpAnyH_done (by kernel_rfl) ?_ _; clear hHeld ZJ LS; have CA := C5
  have OWN5 := Lib.hid (ownsMap_chg OW.out C5.out (by simp))
  have HR5 : Hid (∀ w', Chg [r2] w5 w' → ∀ q x, (segL xs k2 m)[q]? = some x → _) := Lib.hid (fun w' hc q x hx => evCells (runA_some g o k2 ▸ ((RA.out.chg C5.out (by simp)).chg hc (fun a ha => by cases ha; have := BLK.out.resolve_left (by intro z; rw [z] at hx; simp [segL] at hx) _ rfl; have := this.2; simp at this ⊢; omega)).run KM.out.1 KM.out.2) hx)
  clear SHC ZK c1H OW
  gi_wp2
  gi_loopw [34] (fun v34 wq => ∃ (q : Nat), q ≤ m - k2 ∧ v34 = .int .i64 (q : Int) ∧ Hid (wq.ownsMap Tryz.prog 24 (unitElem (H := Unit)) r2 (k2 + q) (dotSetE (es.take (k2 + q)))) ∧ Hid (Chg [r2] w5 wq)) (fun v34 _ => m - k2 - (RowKit.intOf v34).toNat)
  case atStart => exact ⟨0, Nat.zero_le _, rfl, OWN5, Lib.hid (Chg.refl _ _)⟩
  case round =>
   obtain ⟨q, hq, rfl, OQ, CQ⟩ := hrel
   have q0 : (0 : Int) ≤ (q : Int) := by omega
   by_cases hlt : q < m - k2
   ·
    have q1 : (q : Int) < ((m - k2 : Nat) : Int) := by omega
    have q3 : IntKind.i64.wrap ((q : Int) + 1) = (q : Int) + 1 := IntWalk.i64_in _ (by have := KM.out; have := HN.out; omega)
    obtain ⟨x, e, ex, ee, rx⟩ := HX.out.at_ (show k2 + q < xs.length by have := KM.out; omega)
    obtain ⟨z0, z1, z2, z3, z4, z5, z6⟩ := HR5.out wr CQ.out q x (by rw [seg_get xs (by omega)]; exact ex)
    have KEY := Lib.hid (keyDot e.n e.s (dotFine (SHK.out.1 e (List.mem_of_getElem? (show (segL es k2 m)[q]? = some e by rw [seg_get es (by omega)]; exact ee)))).1 (dotFine (SHK.out.1 e (List.mem_of_getElem? (show (segL es k2 m)[q]? = some e by rw [seg_get es (by omega)]; exact ee)))).2)
    have NEXT : Hid ((dotSetE (es.take (k2 + q))).put (dotLit e) (.agg []) = dotSetE (es.take (k2 + (q + 1)))) := Lib.hid (by rw [← dotSetE_snoc, show k2 + (q + 1) = (k2 + q) + 1 by omega, List.take_add_one, ee]; rfl)
    have EN : Hid (x.n = e.n ∧ x.s = e.s) := Lib.hid ⟨rx.n, rx.s⟩
    obtain ⟨w6, hw6, c6, b6⟩ := news1 wr (.cells #[.int .i64 x.n, .int .i64 x.s, .string x.p, .int .i64 x.k, .int .i64 x.m, .slice x.A x.l x.c, .slice x.B x.bl x.bc] 30)
    have W6 := Lib.hid hw6
    have y0 := cell_of b6 0
    have y1 := cell_of b6 1
    simp only [List.getElem?_toArray, List.getElem?_cons_succ, List.getElem?_cons_zero] at y0 y1
    rw [EN.out.1] at y0
    rw [EN.out.2] at y1
    have m3 : w6.cell? ⟨r3, 0, none⟩ = some (.map (some r2)) := by
     have p := c6.at_ (CQ.out.at_ (C5.out.at_ E3.out (by simp)) (by have := RR.out; simp; omega)) (by simp)
     simpa using cell_of p 0
    have OW6 := Lib.hid (ownsMap_chg OQ.out c6 (by simp))
    have C6 := Lib.hid (CQ.out.trans (c6.mono (S' := [r2]) (by simp)))
    clear ex ee rx hw6 c6 b6 OQ
    gi_upto_region 10 with fail
    rw [← W6.out]
    generalize wr.heap.size = g6 at *
    clear W6 z0 z1 z2 z3 z4 z5 z6
    gi_wp2_with (gi_at_mapUpdate; refine wpListIn_mapUpdate_own _ rfl _ _ _ 76 rfl 24 80 law_dot Tryz.underlying76 (unitElem (H := Unit)) r2 (k2 + q) _ rfl OW6.out (by have := KM.out; have := HN.out; unfold maxLen; omega) _ _ _ rfl rfl KEY.out (.agg []) [] unitElem_mk ?_; intro w7 own7 grow7)
    have OW7 : Hid (w7.ownsMap Tryz.prog 24 (unitElem (H := Unit)) r2 (k2 + (q + 1)) (dotSetE (es.take (k2 + (q + 1))))) := Lib.hid (by rw [← NEXT.out]; exact own7)
    have C7 := Lib.hid (C6.out.grown grow7 (fun i hi => by simp at hi; subst hi; exact .inl (by simp)))
    clear own7 grow7 y0 y1 m3
    gi_wp2
    go_roundw
    case rel => exact ⟨q + 1, by omega, by go_num, OW7, C7⟩
    case measure => simp [RowKit.intOf]; omega
   ·
    obtain rfl : q = m - k2 := by omega
    have q1 : ¬ ((m - k2 : Nat) : Int) < ((m - k2 : Nat) : Int) := by omega
    have q5 := CQ.out.at_ (C5.out.at_ E1.out (by simp)) (by have := RR.out; simp; omega)
    have f5 := free_of q5 0
    have z5 := cell_of q5 0
    simp only [List.getElem?_toArray, List.getElem?_cons_zero] at z5
    have Q5 := Lib.hid q5
    clear q5
    have OQ2 : Hid (wr.ownsMap Tryz.prog 24 (unitElem (H := Unit)) r2 m (dotSetE (es.take m))) := Lib.hid (by have q := OQ.out; rwa [show k2 + (m - k2) = m by have := KM.out; omega] at q)
    gi_wp2
    have CST := Lib.hid ((Chg.refl [r1] wr).setCell (p := ⟨r1, 0, none⟩) (.inl (by simp)) (.slice (some ⟨g, o + k2 * 7, none⟩) (m - k2) (m - k2)))
    have CALL := Lib.hid (((C5.out.mono (S' := [r0, r1, r2]) (by simp)).trans (CQ.out.mono (by simp))).trans (CST.out.mono (by simp)))
    refine ⟨KeepsTwo.of_chg CALL.out (fun z hz => by have := RR.out; simp at hz; omega) HSZ.out, Kpt.of_chg CALL.out HZ.out, ⟨CST.out.at_ (CQ.out.at_ (C5.out.at_ E0.out (by simp)) (by have := RR.out; simp; omega)) (by have := RR.out; simp; omega), ?_, CST.out.at_ (CQ.out.at_ (C5.out.at_ E3.out (by simp)) (by have := RR.out; simp; omega)) (by have := RR.out; simp; omega)⟩, ?_, ⟨?_, ?_⟩, ?_, Nat.le_trans HZ.out CALL.out.size⟩
    ·
     rw [aheadV_snoc, runA_some]
     simpa using heap_setCell_same wr r1 0 _ _ _ Q5.out
    ·
     rw [endRun_snoc]
     exact ownsMap_chg OQ2.out CST.out (by have := RR.out; simp; omega)
    ·
     rw [endRun_snoc]
     exact NX.out
    ·
     intro x1 x2 hx
     have e : (pre ++ [(k2, m)]).getLast? = some (k2, m) := by simp
     rw [e] at hx
     cases hx
     exact HRUN.out
    ·
     exact CW.out.trans' CALL.out (fun z hz => .inr (by have := RR.out; simp at hz; omega))
 case done =>
  rintro D zs W hD hS ⟨⟨e0, e1, e3⟩, ow, ⟨ok0, _⟩, hC, hz⟩ hK
  rw [hS, List.take_length] at ow ok0
  have rr := RR.out
  obtain ⟨hle, hiff⟩ := dotSetE_ok ok0
  have XL := HX.out.1
  obtain ⟨sz, hsz⟩ : ∃ sz, Go.Maps.size (dotSetE es) = sz := ⟨_, rfl⟩
  rw [hsz] at hle hiff
  have ST : Hid (stE es = if sz < xs.length then 2 else 0) := Lib.hid (by
   by_cases q : sz < xs.length
   ·
    rw [if_pos q]
    unfold stE
    rw [if_neg]
    intro so
    exact (hiff.2 (stOk_iff.1 so).2) (by omega)
   ·
    rw [if_neg q]
    exact stE_zero.2 (stOk_iff.2 ⟨ok0, hiff.1 (by omega)⟩))
  have E0 := Lib.hid e0
  have HCW := Lib.hid hC
  have OWH := Lib.hid ow
  have z0 := cell_of e0 0
  have f0 := free_of e0 0
  have z3 := cell_of e3 0
  simp only [List.getElem?_toArray, List.getElem?_cons_zero] at z0 z3
  have ne : D ≠ r0 := by omega
  have dw : w.heap.size ≤ D := by omega
  have NE := Lib.hid (And.intro ne dw)
  have KD := Lib.hid hK
  have SZH := Lib.hid hsz
  clear hD hS e0 e1 e3 ow ok0 hC hz hK rr hle hiff XL hsz ne dw
  have FINV : ∀ v : Int, stE es = v → ∀ o, (((W.setCell ⟨r0, 0, none⟩ (.int .i64 v)).putObj D o).cell? ⟨r0, 0, none⟩ = some (.int .i64 v)) := fun v _ o => by
   have p := cell_of ((World.putObj_heap_other (o := o) (fun e => NE.out.1 e.symm)).trans (heap_setCell_same W r0 0 _ _ (.int .i64 v) E0.out)) 0
   simpa using p
  have FV := Lib.hid FINV
  clear FINV
  by_cases q : sz < xs.length
  ·
   have q1 : (sz : Int) < (xs.length : Int) := by omega
   have EV : Hid (stE es = 2) := Lib.hid (by rw [ST.out, if_pos q])
   clear ST
   gi_wp2_with (gi_at_len; refine wpListIn_len_own _ rfl _ _ rfl 24 80 Tryz.underlying76 _ r2 _ _ rfl OWH.out ?_; rw [SZH.out])
   refine ⟨by simp, .inl ⟨_, _, rfl, run_takeDeferred ((heap_setCell_other W ⟨r0, 0, none⟩ D _ NE.out.1).trans KD.out), ?_⟩⟩
   exact ⟨_, stcheck_result _ _ r0 _ rfl (FV.out 2 EV.out _), by rw [EV.out], (HCW.out.setCell (p := ⟨r0, 0, none⟩) (.inr (Nat.le_of_eq RR.out.1)) (.int .i64 2)).putl NE.out.2⟩
  ·
   have q1 : ¬ (sz : Int) < (xs.length : Int) := by omega
   have EV : Hid (stE es = 0) := Lib.hid (by rw [ST.out, if_neg q])
   clear ST
   gi_wp2_with (gi_at_len; refine wpListIn_len_own _ rfl _ _ rfl 24 80 Tryz.underlying76 _ r2 _ _ rfl OWH.out ?_; rw [SZH.out])
   refine ⟨by simp, .inl ⟨_, _, rfl, run_takeDeferred ((heap_setCell_other W ⟨r0, 0, none⟩ D _ NE.out.1).trans KD.out), ?_⟩⟩
   exact ⟨_, stcheck_result _ _ r0 _ rfl (FV.out 0 EV.out _), by rw [EV.out], (HCW.out.setCell (p := ⟨r0, 0, none⟩) (.inr (Nat.le_of_eq RR.out.1)) (.int .i64 0)).putl NE.out.2⟩
 case stop =>
  rintro D c zs W hD _ ⟨rfl, e0, no, hC⟩ hK
  have rr := RR.out
  have EV : Hid (stE es = 2) := Lib.hid ((stE_two es).resolve_left (fun q => no (stE_zero.1 q)))
  have E0 := Lib.hid e0
  have HCW := Lib.hid hC
  have z0 := cell_of e0 0
  simp only [List.getElem?_toArray, List.getElem?_cons_zero] at z0
  have NE := Lib.hid (And.intro (show D ≠ r0 by omega) (show w.heap.size ≤ D by omega))
  have KD := Lib.hid hK
  clear hD e0 no hC hK rr
  gi_wp2
  have Z : ∀ o, (W.putObj D o).cell? ⟨r0, 0, none⟩ = some (.int .i64 2) := fun o => by
   have p := cell_of ((World.putObj_heap_other (o := o) (fun e => NE.out.1 e.symm)).trans E0.out) 0
   simpa using p
  refine ⟨by simp, .inl ⟨_, _, rfl, run_takeDeferred KD.out, ?_⟩⟩
  exact ⟨_, stcheck_result _ _ r0 _ rfl (Z _), by rw [EV.out], HCW.out.putl NE.out.2⟩
end
section
open Go.RowKit Go.Lib


def evW0 (e : EvP) : List UInt8 × Int := wNum [] 0 e.n
def evW1 (e : EvP) : List UInt8 × Int := wNum (evW0 e).1 (evW0 e).2 e.s
def evW2 (e : EvP) : List UInt8 × Int := wRaw (evW1 e).1 (evW1 e).2 e.p
def evW3 (e : EvP) : List UInt8 × Int := wRaw (evW2 e).1 (evW2 e).2 (effO e.k e.m e.b)
def evW4 (e : EvP) : List UInt8 × Int := wRaw (evW3 e).1 (evW3 e).2 (bytesO e.q)
theorem evW_len (e : EvP) : (evW0 e).1.length ≤ 1048576 ∧ (evW1 e).1.length ≤ 1048576 ∧ (evW2 e).1.length ≤ 1048576 ∧ (evW3 e).1.length ≤ 1048576 ∧ (evW4 e).1.length ≤ 1048576 := by
 have h0 : (evW0 e).1.length ≤ 1048576 := wNum_len (by simp)
 have h1 : (evW1 e).1.length ≤ 1048576 := wNum_len h0
 have h2 : (evW2 e).1.length ≤ 1048576 := wRaw_len h1
 have h3 : (evW3 e).1.length ≤ 1048576 := wRaw_len h2
 have h4 : (evW4 e).1.length ≤ 1048576 := wRaw_len h3
 exact ⟨h0, h1, h2, h3, h4⟩
def bytesEv (e : EvP) : List UInt8 × Int := if chkEv e = 0 then (outs (evW4 e).1 (evW4 e).2, (evW4 e).2) else ([], 2)
theorem effO_len (k m : Int) (ys : List UInt8) : (effO k m ys).length ≤ 2000 := by
 unfold effO
 split
 ·
  rename_i h
  have := fine_len h
  unfold effB
  rw [List.length_append, List.length_append, List.length_append, enc_len, enc_len, enc_len]
  have n1 := nb_le k.toNat (by omega)
  have n2 := nb_le m.toNat (by omega)
  have n3 := nb_le ys.length (by omega)
  omega
 ·
  simp
theorem bytesO_len (xs : List (Int × Int × Int)) : (bytesO xs).length ≤ 40000 := by
 unfold bytesO
 split
 ·
  rename_i h
  have := (chkS_zero h).1
  show (UInt8.ofNat (xs.length / 256) :: UInt8.ofNat xs.length :: xs.flatMap spanB).length ≤ 40000
  rw [List.length_cons, List.length_cons, flat_len]
  omega
 ·
  simp

set_option maxRecDepth 100000 in
set_option maxHeartbeats 8000000 in
theorem evbytes_any (w : World) (x : EvT) (e : EvP) (h : EvR w x e) (hs : EvSm e) :
  Calls Tryz.prog 69 #[.agg #[.int .i64 x.n, .int .i64 x.s, .string x.p, .int .i64 x.k, .int .i64 x.m, .slice x.A x.l x.c, .slice x.B x.bl x.bc]] w fun r w' => ∃ A' c', r = .returned (.tuple #[.slice A' (bytesEv e).1.length c', .int .i64 (bytesEv e).2]) ∧ Fresh w w' A' c' (bytesEv e).1 := by
 obtain ⟨w1, hw1, c1, b1⟩ := news1 w (.cells #[.int .i64 x.n, .int .i64 x.s, .string x.p, .int .i64 x.k, .int .i64 x.m, .slice x.A x.l x.c, .slice x.B x.bl x.bc] 30)
 have W1 := Lib.hid hw1
 have HR := Lib.hid (h.chg c1)
 have C0 := Lib.hid c1
 have HS := Lib.hid hs
 have z0 := cell_of b1 0
 have z1 := cell_of b1 1
 have z2 := cell_of b1 2
 have z3 := cell_of b1 3
 have z4 := cell_of b1 4
 have z5 := cell_of b1 5
 have z6 := cell_of b1 6
 simp only [List.getElem?_toArray, List.getElem?_cons_succ, List.getElem?_cons_zero] at z0 z1 z2 z3 z4 z5 z6
 have hck := evcheck_any w1 x e (h.chg c1) hs
 rcases chkEv_two e with hk | hk
 rotate_left
 ·
  have EB : Hid (bytesEv e = ([], 2)) := Lib.hid (by unfold bytesEv; rw [hk]; rfl)
  rw [hk] at hck
  have HC := Lib.hid hck
  clear hck hk hw1 c1 b1 h hs
  rw [EB.out]
  go_enter Tryz.func69, Tryz.ntmps69
  go_upto_region 1 with fail
  rw [← W1.out]
  generalize w.heap.size = g0 at *
  go_wp2_with fail
  refine HC.out.mono ?_
  rintro r w2 ⟨rfl, hc⟩
  have C := Lib.hid (C0.out.trans hc)
  clear hc z0 z1 z2 z3 z4 z5 z6; go_wp2; go_ret2
  exact ⟨none, 0, rfl, OwnB.none_ _, by simp, C.out⟩
 have EB : Hid (bytesEv e = (outs (evW4 e).1 (evW4 e).2, (evW4 e).2)) := Lib.hid (by unfold bytesEv; rw [if_pos hk])
 rw [hk] at hck
 have HC := Lib.hid hck
 rw [EB.out]
 obtain ⟨g0, hg0⟩ : ∃ g, w.heap.size = g := ⟨_, rfl⟩
 rw [hg0] at z0 z1 z2 z3 z4 z5 z6
 have G0 := Lib.hid hg0
 have DX : Hid (∀ w', Chg [] w1 w' → w'.cell? ⟨g0, 0, none⟩ = some (.int .i64 x.n) ∧ w'.cell? ⟨g0, 1, none⟩ = some (.int .i64 x.s) ∧ w'.cell? ⟨g0, 2, none⟩ = some (.string x.p) ∧ w'.cell? ⟨g0, 3, none⟩ = some (.int .i64 x.k) ∧ w'.cell? ⟨g0, 4, none⟩ = some (.int .i64 x.m) ∧ w'.cell? ⟨g0, 5, none⟩ = some (.slice x.A x.l x.c) ∧ w'.cell? ⟨g0, 6, none⟩ = some (.slice x.B x.bl x.bc)) := Lib.hid (fun w' hc => ⟨hc.cell z0 (by simp), hc.cell z1 (by simp), hc.cell z2 (by simp), hc.cell z3 (by simp), hc.cell z4 (by simp), hc.cell z5 (by simp), hc.cell z6 (by simp)⟩)
 have xn := Lib.hid h.n
 have xs := Lib.hid h.s
 have xp := Lib.hid h.p
 have xk := Lib.hid h.k
 have xm := Lib.hid h.m
 have EL := Lib.hid (evW_len e)
 clear hck hk hw1 c1 b1 h hs hg0
 go_enter Tryz.func69, Tryz.ntmps69
 go_upto_region 1 with fail
 rw [← W1.out, G0.out]
 go_wp2_with fail
 refine HC.out.mono ?_
 rintro r w2 ⟨rfl, hc⟩
 have C := Lib.hid hc
 clear hc z0 z1 z2 z3 z4 z5 z6
 obtain ⟨z0, z1, z2, z3, z4, z5, z6⟩ := DX.out _ C.out
 go_wp2_with fail
 refine (ebytes_any w2 x.k x.m x.A x.l x.c e.b (HR.out.A.chg C.out (by simp)) (by rw [HR.out.l]; exact HS.out.2.1)).mono ?_
 rintro r w3 ⟨A3, c3, rfl, h3⟩
 clear z0 z1 z2 z3 z4 z5 z6
 rw [xk.out, xm.out] at h3
 rw [xk.out, xm.out]
 have O3 := Lib.hid h3.1
 replace C := Lib.hid (C.out.trans h3.2.2)
 clear h3
 obtain ⟨z0, z1, z2, z3, z4, z5, z6⟩ := DX.out _ C.out
 go_wp2_with fail
 refine (pabytes_any w3 x.B x.bl x.bc e.q (HR.out.B.chg C.out (by simp)) (by rw [HR.out.bl]; exact HS.out.2.2)).mono ?_
 rintro r w4 ⟨A4, c4, rfl, h4⟩
 clear z0 z1 z2 z3 z4 z5 z6
 have O4 := Lib.hid h4.1
 replace O3 := Lib.hid (O3.out.chg h4.2.2 (by simp))
 replace C := Lib.hid (C.out.trans h4.2.2)
 clear h4
 have DX4 : Hid (∀ w', Chg [] w4 w' → w'.cell? ⟨g0, 0, none⟩ = some (.int .i64 x.n) ∧ w'.cell? ⟨g0, 1, none⟩ = some (.int .i64 x.s) ∧ w'.cell? ⟨g0, 2, none⟩ = some (.string x.p) ∧ w'.cell? ⟨g0, 3, none⟩ = some (.int .i64 x.k) ∧ w'.cell? ⟨g0, 4, none⟩ = some (.int .i64 x.m) ∧ w'.cell? ⟨g0, 5, none⟩ = some (.slice x.A x.l x.c) ∧ w'.cell? ⟨g0, 6, none⟩ = some (.slice x.B x.bl x.bc)) := Lib.hid (fun w' hc => DX.out _ (C.out.trans hc))
 have P4 := xp
 go_wp2_with fail
 refine (ws_new w4 w4 (Chg.refl [] w4)).mono ?_
 rintro r w5 ⟨b, rfl, h5⟩
 have K := Lib.hid h5
 clear h5
 obtain ⟨z0, z1, z2, z3, z4, z5, z6⟩ := DX4.out _ K.out.chg
 go_wp2_with fail
 refine (ws_num w4 w5 b [] 0 x.n K.out (by simp)).mono ?_
 rintro r w6 ⟨rfl, h⟩
 rw [xn.out] at h
 clear z0 z1 z2 z3 z4 z5 z6
 replace K : Hid (Ws w4 w6 b (evW0 e).1 (evW0 e).2) := Lib.hid h
 clear h
 obtain ⟨z0, z1, z2, z3, z4, z5, z6⟩ := DX4.out _ K.out.chg
 go_wp2_with fail
 refine (ws_num w4 w6 b _ _ x.s K.out EL.out.1).mono ?_
 rintro r w7 ⟨rfl, h⟩
 rw [xs.out] at h
 clear z0 z1 z2 z3 z4 z5 z6
 replace K : Hid (Ws w4 w7 b (evW1 e).1 (evW1 e).2) := Lib.hid h
 clear h
 obtain ⟨z0, z1, z2, z3, z4, z5, z6⟩ := DX4.out _ K.out.chg
 go_wp2_with fail
 refine (ws_text w4 w7 b _ _ x.p K.out (EL.out.2.1) (by rw [xp.out, strOf_size]; have := HS.out.1; omega)).mono ?_
 rintro r w8 ⟨rfl, h⟩
 rw [xp.out, strOf_data] at h
 clear z0 z1 z2 z3 z4 z5 z6
 replace K : Hid (Ws w4 w8 b (evW2 e).1 (evW2 e).2) := Lib.hid h
 clear h
 obtain ⟨z0, z1, z2, z3, z4, z5, z6⟩ := DX4.out _ K.out.chg
 go_wp2_with fail
 refine (ws_raw w4 w8 b _ _ A3 _ c3 (effO e.k e.m e.b) K.out (EL.out.2.2.1) (by have := effO_len e.k e.m e.b; omega) O3.out.reads).mono ?_
 rintro r w9 ⟨rfl, h⟩
 clear z0 z1 z2 z3 z4 z5 z6
 replace K : Hid (Ws w4 w9 b (evW3 e).1 (evW3 e).2) := Lib.hid h
 clear h
 obtain ⟨z0, z1, z2, z3, z4, z5, z6⟩ := DX4.out _ K.out.chg
 go_wp2_with fail
 refine (ws_raw w4 w9 b _ _ A4 _ c4 (bytesO e.q) K.out (EL.out.2.2.2.1) (by have := bytesO_len e.q; omega) O4.out.reads).mono ?_
 rintro r w10 ⟨rfl, h⟩
 clear z0 z1 z2 z3 z4 z5 z6
 replace K : Hid (Ws w4 w10 b (evW4 e).1 (evW4 e).2) := Lib.hid h
 clear h
 obtain ⟨z0, z1, z2, z3, z4, z5, z6⟩ := DX4.out _ K.out.chg
 go_wp2_with fail
 refine (ws_out w4 w10 b _ _ K.out (EL.out.2.2.2.2)).mono ?_
 rintro r w11 ⟨A9, c9, rfl, h9⟩
 have F := Lib.hid (h9.since (C0.out.trans C.out))
 clear h9 z0 z1 z2 z3 z4 z5 z6; go_wp2; go_ret2
 exact ⟨A9, c9, rfl, F.out⟩

set_option maxRecDepth 100000 in
set_option maxHeartbeats 4000000 in
theorem evsize_any (w : World) (x : EvT) (e : EvP) (h : EvR w x e) (hs : EvSm e) :
  Calls Tryz.prog 75 #[.agg #[.int .i64 x.n, .int .i64 x.s, .string x.p, .int .i64 x.k, .int .i64 x.m, .slice x.A x.l x.c, .slice x.B x.bl x.bc]] w fun r w' => r = .returned (.int .i64 ((bytesEv e).1.length : Int)) ∧ Chg [] w w' := by
 obtain ⟨w1, hw1, c1, b1⟩ := news1 w (.cells #[.int .i64 x.n, .int .i64 x.s, .string x.p, .int .i64 x.k, .int .i64 x.m, .slice x.A x.l x.c, .slice x.B x.bl x.bc] 30)
 have W1 := Lib.hid hw1
 have HR := Lib.hid (h.chg c1)
 have C0 := Lib.hid c1
 have HS := Lib.hid hs
 have z0 := cell_of b1 0
 have z1 := cell_of b1 1
 have z2 := cell_of b1 2
 have z3 := cell_of b1 3
 have z4 := cell_of b1 4
 have z5 := cell_of b1 5
 have z6 := cell_of b1 6
 simp only [List.getElem?_toArray, List.getElem?_cons_succ, List.getElem?_cons_zero] at z0 z1 z2 z3 z4 z5 z6
 clear hw1 c1 b1 h hs
 generalize hB : bytesEv e = B
 have HB := Lib.hid hB
 clear hB
 go_enter Tryz.func75, Tryz.ntmps75
 go_upto_region 1 with fail
 rw [← W1.out]
 generalize w.heap.size = g0 at *
 go_wp2_with fail
 refine (evbytes_any w1 x e HR.out HS.out).mono ?_
 rintro r w2 ⟨A2, c2, rfl, hf⟩
 rw [HB.out]
 have C := Lib.hid (C0.out.trans hf.2.2)
 clear hf z0 z1 z2 z3 z4 z5 z6; go_wp2; go_ret
 exact ⟨rfl, C.out⟩
end
section
open Go.RowKit

def fnv1 (s : Nat) (x : UInt8) : Nat := ((s ^^^ x.toNat) * 1099511628211) % 18446744073709551616
def fnv (s : Nat) (xs : List UInt8) : Nat := xs.foldl fnv1 s
def fnv0 : Nat := 14695981039346656037
def fnvS (xs : List UInt8) : Nat := fnv fnv0 xs
theorem fnv1_lt (s : Nat) (x : UInt8) : fnv1 s x < 18446744073709551616 := Nat.mod_lt _ (by decide)
theorem fnv_lt (s : Nat) (xs : List UInt8) (h : s < 18446744073709551616) : fnv s xs < 18446744073709551616 := by
 induction xs generalizing s with
 | nil => exact h
 | cons x xs ih => exact ih _ (fnv1_lt s x)
theorem foldl_snoc {α β : Type} (f : α → β → α) (s : α) (xs : List β) (x : β) : (xs ++ [x]).foldl f s = f (xs.foldl f s) x := by simp
theorem fnv_snoc (s : Nat) (xs : List UInt8) (x : UInt8) : fnv s (xs ++ [x]) = fnv1 (fnv s xs) x := foldl_snoc fnv1 s xs x
theorem fnv_take (s : Nat) (xs : List UInt8) (k : Nat) (h : k < xs.length) : fnv s (xs.take (k + 1)) = fnv1 (fnv s (xs.take k)) (xs.getD k 0) := by
 have : xs.take (k + 1) = xs.take k ++ [xs.getD k 0] := by
  rw [List.take_succ_eq_append_getElem h]
  simp [List.getD, h]
 rw [this, fnv_snoc]
theorem fnv_step_any (s C : Nat) (x : UInt8) (h : s < 18446744073709551616) : IntKind.u64.wrap (bits .xor .u64 (s : Int) (IntKind.u64.wrap (x.toNat : Int)) * (C : Int)) = ((((s ^^^ x.toNat) * C) % 18446744073709551616 : Nat) : Int) := by
 have hx := x.toNat_lt
 have e : IntKind.u64.wrap (x.toNat : Int) = (x.toNat : Int) := by rw [IntKind.wrap_u64]; omega
 rw [e, bits_xor_u64_nat s x.toNat h (by omega), IntKind.wrap_u64]
 generalize s ^^^ x.toNat = y
 rw [← Int.natCast_mul]
 generalize y * C = z
 omega
theorem fnv_step (s : Nat) (x : UInt8) (h : s < 18446744073709551616) : IntKind.u64.wrap (bits .xor .u64 (s : Int) (IntKind.u64.wrap (x.toNat : Int)) * 1099511628211) = ((fnv1 s x : Nat) : Int) := fnv_step_any s 1099511628211 x h

theorem Bs.line {w : World} {A : Option Addr} {n : Nat} {xs : List UInt8} (h : Bs w A n xs) (h0 : 0 < xs.length) : ∃ g o, A = some ⟨g, o, none⟩ ∧ ∀ j, j < xs.length → w.cell? ⟨g, o + j, none⟩ = some (.int .u8 ((xs.getD j 0).toNat : Int)) := by
 obtain ⟨a, rfl, hc⟩ := h.cells 0 _ (List.getElem?_eq_getElem h0)
 have hsp := World.cell?_spot hc
 obtain ⟨g, o, sp⟩ := a
 have hsp : sp = none := by simpa [Addr.add] using hsp
 subst hsp
 refine ⟨g, o, rfl, fun j hj => ?_⟩
 obtain ⟨a', e, hcj⟩ := h.cells j _ (List.getElem?_eq_getElem hj)
 cases e
 rw [add_lit] at hcj
 rw [hcj]
 simp [bv, List.getD, hj]

set_option maxHeartbeats 1000000 in
theorem through_any (w : World) (s : Nat) (hs : s < 18446744073709551616) (A : Option Addr) (n c : Nat) (xs : List UInt8) (h : Bs w A n xs) (hn : n ≤ 140737488351232) :
  Calls Tryz.prog 141 #[.int .u64 (s : Int), .slice A n c] w fun e w' => e = .returned (.int .u64 (fnv s xs : Int)) ∧ w = w' := by
 have hl := h.len
 subst hl
 have HB := Lib.hid h
 have HS := Lib.hid hs
 clear h hs
 go_enter Tryz.func141, Tryz.ntmps141
 go_wp2
 go_loop [0, 9] (fun v i => ∃ k : Nat, k ≤ xs.length ∧ i = .int .i64 k ∧ v = .int .u64 (fnv s (xs.take k) : Int)) (fun _ i => xs.length - (intOf i).toNat)
 case atStart => exact ⟨0, by omega, rfl, rfl⟩
 case round =>
  obtain ⟨k, hk, rfl, rfl⟩ := hrel
  by_cases hlt : k < xs.length
  ·
   obtain ⟨g, o, rfl, hc⟩ := HB.out.line (by omega)
   have hck := hc k hlt
   have hst := fnv_step (fnv s (xs.take k)) (xs.getD k 0) (fnv_lt _ _ HS.out)
   have ht := fnv_take s xs k hlt
   have HT := Lib.hid ht
   have HSt := Lib.hid hst
   clear hc ht hst
   generalize fnv s (xs.take k) = f at *
   generalize xs.getD k 0 = x at *
   go_wp2; go_round
   case rel => exact ⟨k + 1, by omega, by go_num, by rw [HSt.out, HT.out]⟩
   case measure => simp [intOf]; omega
  ·
   go_wp2; go_ret
   have : k = xs.length := by omega
   subst this
   exact ⟨by rw [List.take_length]; rfl, rfl⟩
end
section
open Go.RowKit

theorem fnv0_lt : fnv0 < 18446744073709551616 := by unfold fnv0; omega
set_option maxHeartbeats 400000 in
theorem more_any (w : World) (s : Nat) (hs : s < 18446744073709551616) (A : Option Addr) (n c : Nat) (xs : List UInt8) (h : Bs w A n xs) (hn : n ≤ 140737488351232) :
  Calls Tryz.prog 138 #[.int .u64 (s : Int), .slice A n c] w fun e w' => e = .returned (.int .u64 (fnv s xs : Int)) ∧ w = w' := by
 have HC := Lib.hid (through_any w s hs A n c xs h hn)
 clear h
 go_enter Tryz.func138, Tryz.ntmps138
 go_wp2_with (go_at_call 141; refine HC.out.mono ?_; rintro e w1 ⟨rfl, rfl⟩)
 go_ret
 exact ⟨rfl, rfl⟩
set_option maxHeartbeats 400000 in
theorem sum_any (w : World) (A : Option Addr) (n c : Nat) (xs : List UInt8) (h : Bs w A n xs) (hn : n ≤ 140737488351232) :
  Calls Tryz.prog 70 #[.slice A n c] w fun e w' => e = .returned (.int .u64 (fnvS xs : Int)) ∧ w = w' := by
 have hc := more_any w fnv0 fnv0_lt A n c xs h hn
 change Calls _ _ _ _ (fun e w' => e = .returned (.int .u64 (fnvS xs : Int)) ∧ w = w') at hc
 have HC := Lib.hid hc
 clear h hc
 generalize fnvS xs = S at *
 go_enter Tryz.func70, Tryz.ntmps70
 go_wp2_with (go_at_call 138; refine HC.out.mono ?_; rintro e w1 ⟨rfl, rfl⟩)
 go_ret
 exact ⟨rfl, rfl⟩

theorem app_fresh {w wr w1 : World} {A A' : Option Addr} {c' : Nat} {o : Obj} {zs : List UInt8} (own1 : OwnB w1 A' c' zs) (f2 : ∀ a, A = some a → w.heap.size ≤ a.block) (hc : Chg [] w wr) (hg1 : (wr.alloc o).grownBy w1 (A.map (·.block)))
  (hA1 : A' = A ∨ A' = some ⟨(wr.alloc o).heap.size, 0, none⟩) : Fresh w w1 A' c' zs := by
 have hs := hc.size
 refine ⟨own1, ?_, (hc.alloc _).grown hg1 (fun k hk => ?_)⟩
 ·
  rintro a rfl
  rcases hA1 with h | h
  ·
   exact f2 a h.symm
  ·
   cases h; simp; omega
 ·
  cases A with
  | none => cases hk
  | some a => simp at hk; subst hk; exact .inr (f2 a rfl)
end
end Go.Proofs.YtomgjogkkoigbaaGreatDoor
