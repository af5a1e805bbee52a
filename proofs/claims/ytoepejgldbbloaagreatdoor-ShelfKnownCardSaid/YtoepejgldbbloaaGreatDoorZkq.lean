/- As XRangeo, over a method as a value (bound arguments la). A range over a function whose body also makes memory of its own (a row that grows): the iterator promises to leave alone all that there is but its own blocks. No program here. A range over a function whose body also makes memory of its own (a row that grows): the iterator promises to leave alone all that there is but its own blocks. No program here. Rows in the body of a range over a function (taken from XToway by gen/Ckcut2.py). past: what is kept. past: kept hands on what is kept. past.may. past.Within. event.bringsAll. Arguments opened: bytes, numbers, texts: from the data that a row reads to the cells that a walk goes over. Slices of spans as arguments. An event as an argument. Rows of events that are not long: purely. Closed events are in order, and one made behind them: purely. -/
import Derived.Test.YtoepejgldbbloaaGreatDoorZkc
import Derived.Test.YtoepejgldbbloaaGreatDoorZka
import Derived.OwnWalkIn
import Derived.Test.YtoepejgldbbloaaGreatDoorZkp
import Derived.Test.YtoepejgldbbloaaGreatDoorZkk
import Derived.Deep.Cut
import Derived.Deep.CutRange
import Derived.Sort.LoopGhostIn
import Derived.Test.YtoepejgldbbloaaGreatDoorZkd
import Derived.Test.YtoepejgldbbloaaGreatDoorZkn
import Derived.Test.YtoepejgldbbloaaGreatDoorZkm
import Derived.BigQuiet
import Derived.Deep.Slices
import Derived.Deep.Fields
import Derived.ChangeSame
import Derived.SizedLaws
import Derived.ChangeArms
import Derived.ChangeSlices
import Derived.OpenShut
import Derived.ProofKit
import Derived.Test.YtoepejgldbbloaaGreatDoorZkb
import Derived.Test.YtoepejgldbbloaaGreatDoorZkj
namespace Go.Proofs.YtoepejgldbbloaaGreatDoor
section
open Go.RowKit

theorem range_bound {α : Type} {P : Program} {n : Nat} {g : Operand} {ps : Array Tmp} {assign body : Code} {Q : Exit → Act → World → Prop} {a : Act} {w : World} {gf : Nat} {lb bd : Array Value}
    (hg : a.eval g = .func (.func gf) bd lb) (eg : ∀ args w, (callFunc gf args).run P w = .ok (.enter gf args) w) {encs : α → Array Value} {S Sp : List α → Prop} {Ex : List α → α → World → Prop} {Bd : List α → Prop} {n₁ : Nat} (hn₁ : n₁ ≤ w.heap.size) {Si T : List Nat} (hSi : ∀ x ∈ Si, x < w.heap.size)
    (hseq : ∀ (l : Nat) (J Jx : List α → World → Prop) (W : World), Below w.heap.size w W → (∀ pre A B, J pre A → Chg Si A B → J pre B) → (∀ pre A B, Jx pre A → Chg Si A B → Jx pre B) → (∀ pre A, J pre A → Bd pre) →
      (∀ pre x W1, J pre W1 → Ex pre x W1 → YieldAt Fence.wide (n - 1 - 1) P l (encs x) W1 fun e W' => (e = .returned (.bool true) ∧ J (pre ++ [x]) W' ∧ Kpt n₁ T W1 W') ∨ (e = .returned (.bool false) ∧ Jx (pre ++ [x]) W')) →
      J [] W → CallsIn Fence.wide (n - 1) P gf ((bd ++ #[.func (.yield l) #[] #[]]) ++ lb) W fun e W' => (∃ v, e = .returned v) ∧ ((∃ xs, S xs ∧ J xs W') ∨ ∃ xs, Sp xs ∧ Jx xs W'))
    (hps : ∀ x, (encs x).size = ps.size) (I : List α → World → Prop) (Ix : Code → List α → World → Prop) (hI : ∀ pre A B, I pre A → Chg Si A B → I pre B) (hIx : ∀ c pre A B, Ix c pre A → Chg Si A B → Ix c pre B)
    (hIl : ∀ pre W l o o', W.heap[l]? = some o → o.isCells = false → w.heap.size ≤ l → I pre W → I pre (W.putObj l o')) (hIxl : ∀ c pre W l o o', W.heap[l]? = some o → o.isCells = false → w.heap.size ≤ l → Ix c pre W → Ix c pre (W.putObj l o')) (hBd : ∀ pre A, I pre A → Bd pre) (h0 : I [] w)
    (hEx : ∀ pre x W l o o', W.heap[l]? = some o → o.isCells = false → Ex pre x W → Ex pre x (W.putObj l o')) (a₁ : α → Act)
    (hassign : ∀ (l : Nat) (x : α) (W : World) (K : Act → World → Prop), K (a₁ x) W →
      assign.wpIn (Fence.wide.inRound l) (n - 1 - 1) P (Exit.then K (fun _ _ _ => False)) { tmps := (ps.zip (encs x)).foldl (fun t (p, v) => t.setIfInBounds p v) a.tmps, defers := [] } W)
    (hbody : ∀ (l : Nat) (pre : List α) (x : α) (W : World), I pre W → Ex pre x W → body.wpIn (Fence.wide.inRound l) (n - 1 - 1) P (brkPost I Ix n₁ T (pre ++ [x]) W) (a₁ x) W)
    (hdone : ∀ (D : Nat) (xs : List α) (W : World), w.heap.size ≤ D → S xs → I xs W → W.heap[D]? = some (.deferred (some [])) → Q .normal { a with defers := { target := .collected D, args := #[] } :: a.defers } W)
    (hstop : ∀ (D : Nat) (c : Code) (xs : List α) (W : World), w.heap.size ≤ D → Sp xs → Ix c xs W → W.heap[D]? = some (.deferred (some [])) → c.wpIn Fence.wide n P Q { a with defers := { target := .collected D, args := #[] } :: a.defers } W) :
    (Code.rangeFunc g ps assign body).wpIn Fence.wide n P Q a w := by
  refine wpIn_rangeFunc ?_
  intro fn hfn
  obtain ⟨rc, hrc⟩ : ∃ rc : LoopState → Option Code → Loop, rc = fun st pe => { state := st, pending := pe, fn, tmps := a.tmps, params := ps, assign, body, defers := w.heap.size } := ⟨_, rfl⟩
  obtain ⟨V, hV, hcV, hD0, hL0⟩ := news2 w (.deferred (some [])) (.loop (rc .ready none))
  have hsV : V.heap.size = w.heap.size + 2 := by rw [hV]; simp
  have bV : Below w.heap.size w V := by rw [hV]; exact ((Below.refl _ w).alloc (Nat.le_refl _) _).alloc (by simp) _
  refine ⟨w.heap.size + 1, [{ target := .collected w.heap.size, args := #[] }], V, { target := .fn (.func gf) lb, args := bd ++ #[.func (.yield (w.heap.size + 1)) #[] #[]] }, V, gf,
    (bd ++ #[.func (.yield (w.heap.size + 1)) #[] #[]]) ++ lb, V, ?_, ?_, fun _ _ => trivial, ?_, fun h => by simp [Fence.wide] at h, ?_⟩
  · rw [hV, hrc]; exact run_enterLoop_outer _ _ _ _ _
  · simp only [resolve, hg]
    simp [go_sem]
  · simp [invoke, go_sem, eg]
  · -- the record and the row of deferred calls, turned or not, lie at or behind w's end
    have turn : ∀ (W : World) (o : Obj) (o' : Obj), W.heap[w.heap.size + 1]? = some o → o.isCells = false → o.isWalk = false → ∀ m, m ≤ w.heap.size → Below m W (W.putObj (w.heap.size + 1) o') :=
      fun W o o' h hc hw m hm => belowK_b (w := w) hm W _ o o' (by omega) h hc hw
    have far : ∀ k, w.heap.size ≤ k → k ∉ Si := fun k hk h => by have := hSi k h; omega
    refine (hseq (w.heap.size + 1) (fun pre W => I pre W ∧ W.heap[w.heap.size + 1]? = some (.loop (rc .ready none)) ∧ W.heap[w.heap.size]? = some (.deferred (some [])))
      (fun pre W => ∃ c, Ix c pre W ∧ W.heap[w.heap.size + 1]? = some (.loop (rc .done (some c))) ∧ W.heap[w.heap.size]? = some (.deferred (some []))) V bV ?_ ?_ (fun pre A h => hBd _ _ h.1) ?_
      ⟨hI _ _ _ h0 (Chg.ofBelow bV (Nat.le_refl _) _), hL0, hD0⟩).mono ?_
    · rintro pre A B ⟨hi, hl, hk⟩ hb
      exact ⟨hI _ _ _ hi hb, hb.at_ hl (far _ (by omega)), hb.at_ hk (far _ (Nat.le_refl _))⟩
    · rintro pre A B ⟨c, hi, hl, hk⟩ hb
      exact ⟨c, hIx _ _ _ _ hi hb, hb.at_ hl (far _ (by omega)), hb.at_ hk (far _ (Nat.le_refl _))⟩
    · rintro pre x W ⟨hi, hl, hk⟩ hx
      have hlt := lt_of_heap hl
      have hy := run_yield (P := P) (args := encs x) hl (by rw [hrc]; exact hps x)
      rw [hrc] at hy
      refine ⟨fn, _, assign, body, hy, roundIn_of_wpIn hfn (hassign _ x W _ ⟨_, run_beginRound hl (by rw [hrc]), ?_⟩)⟩
      have hl2 : (W.putObj (w.heap.size + 1) (.loop { rc .ready none with state := .busy })).heap[w.heap.size + 1]? = some (.loop { rc .ready none with state := .busy }) := World.putObj_heap_same hlt
      have hk2 : (W.putObj (w.heap.size + 1) (.loop { rc .ready none with state := .busy })).heap[w.heap.size]? = some (.deferred (some [])) := (World.putObj_heap_other (by omega)).trans hk
      have b2 := turn W _ (.loop { rc .ready none with state := .busy }) hl rfl rfl
      refine wpIn_mono (hbody _ pre x _ (hIl _ _ _ _ _ hl rfl (by omega) hi) (hEx pre x W _ _ _ hl rfl hx)) ?_
      have fin : ∀ (c : Code) (W3 : World), KeepsOthers (W.putObj (w.heap.size + 1) (.loop { rc .ready none with state := .busy })) W3 → Ix c (pre ++ [x]) W3 →
          ∃ v w', (Instr.endRound (w.heap.size + 1) (some c)).run P W3 = .ok v w' ∧ ((Ending.returned v = .returned (.bool true) ∧ (I (pre ++ [x]) w' ∧ w'.heap[w.heap.size + 1]? = some (.loop (rc .ready none)) ∧ w'.heap[w.heap.size]? = some (.deferred (some []))) ∧ Kpt n₁ T W w') ∨
            (Ending.returned v = .returned (.bool false) ∧ ∃ c, Ix c (pre ++ [x]) w' ∧ w'.heap[w.heap.size + 1]? = some (.loop (rc .done (some c))) ∧ w'.heap[w.heap.size]? = some (.deferred (some [])))) := by
        intro c W3 hk3 hi3
        have hl3 := hk3.same _ _ hl2 rfl
        have hd3 := hk3.same _ _ hk2 rfl
        have hr := run_endRound (P := P) (some c) hl3
        have b4 := turn W3 _ (.loop (rc .done (some c))) hl3 rfl rfl
        refine ⟨_, _, hr, .inr ⟨rfl, c, ?_, ?_, ?_⟩⟩
        · have := hIxl _ _ _ _ _ (.loop (rc .done (some c))) hl3 rfl (by omega) hi3
          rw [hrc] at this ⊢
          exact this
        · rw [hrc]; exact World.putObj_heap_same (lt_of_heap hl3)
        · exact (World.putObj_heap_other (by omega)).trans hd3
      rintro e a3 W3 hp
      cases e with
      | normal =>
        obtain ⟨hk3, hb3, hi3⟩ := hp
        have hl3 := hk3.same _ _ hl2 rfl
        have hd3 := hk3.same _ _ hk2 rfl
        have hr := run_endRound (P := P) none hl3
        have b4 := turn W3 _ (.loop (rc .ready none)) hl3 rfl rfl
        refine ⟨_, _, hr, .inl ⟨rfl, ⟨?_, ?_, ?_⟩, ?_⟩⟩
        · have := hIl _ _ _ _ (.loop (rc .ready none)) hl3 rfl (by omega) hi3
          rw [hrc] at this ⊢
          exact this
        · rw [hrc]; exact World.putObj_heap_same (lt_of_heap hl3)
        · exact (World.putObj_heap_other (by omega)).trans hd3
        · have := ((Kpt.of_below (T := T) (b2 _ hn₁) (Nat.le_refl _)).trans hb3).trans (Kpt.of_below (b4 _ hn₁) (Nat.le_refl _))
          rw [hrc] at this ⊢
          exact this
      | ret => exact fin .ret W3 hp.1 hp.2
      | exit id => exact fin (.exit id) W3 hp.1 hp.2
      | goto t => exact hp.elim
      | panic ch => exact hp.elim
      | outgrown => exact hp.elim
    · rintro e W2 ⟨⟨v, rfl⟩, (⟨xs, hS, hi, hl, hk⟩ | ⟨xs, hS, c, hi, hl, hk⟩)⟩
      · refine ⟨none, _, by have := run_endLoop (P := P) hl (by rw [hrc]; simp); rw [hrc] at this; exact this, hdone _ xs _ (Nat.le_refl _) hS ?_ ((World.putObj_heap_other (by omega)).trans hk)⟩
        exact hIl _ _ _ _ _ hl rfl (by omega) hi
      · refine ⟨some c, _, by have := run_endLoop (P := P) hl (by rw [hrc]; simp); rw [hrc] at this; exact this, hstop _ c xs _ (Nat.le_refl _) hS ?_ ((World.putObj_heap_other (by omega)).trans hk)⟩
        exact hIxl _ _ _ _ _ _ hl rfl (by omega) hi
end
section
open Go.RowKit
set_option linter.unusedSimpArgs false
set_option linter.unusedVariables false
attribute [local go_sem] Oper.semAt_some
theorem Chg.putl {S : List Nat} {a w : World} (h : Chg S a w) {l : Nat} {o' : Obj} (hl : a.heap.size ≤ l) : Chg S a (w.putObj l o') :=
  ⟨h.os, h.tape, h.output, by have := h.size; simp [World.putObj]; omega, fun k hk hn => (World.putObj_heap_other (by omega)).trans (h.block k hk hn)⟩
end
section
open Go.RowKit Go.Lib
set_option linter.unusedSimpArgs false
set_option linter.unusedVariables false


theorem RdK.kpt {α : Type} {R : RowTy α} {w w' : World} {n₁ : Nat} {T : List Nat} {A : Option Addr} {n : Nat} {xs : List α} (h : RdK R w A n xs) (hk : Kpt n₁ T w w') (ha : ∀ a, A = some a → a.block < n₁ ∧ a.block ∉ T) : RdK R w' A n xs := by
  refine ⟨h.len, fun j v hj => ?_⟩
  obtain ⟨a, e, hc⟩ := h.cells j v hj
  refine ⟨a, e, ?_⟩
  have := ha a e
  have e2 : (a.add j).block = a.block := by unfold Addr.add; split <;> rfl
  exact (World.cell?_of_block (hk.block (a.add j).block (by rw [e2]; exact this.1) (by rw [e2]; exact this.2))).trans hc
end
section
open Go.RowKit Go.Lib
set_option linter.unusedSimpArgs false
set_option linter.unusedVariables false


end
section
open Go.RowKit Go.Lib
set_option linter.unusedSimpArgs false
set_option linter.unusedVariables false


end
section
open Go.RowKit Go.Lib
set_option linter.unusedSimpArgs false
set_option linter.unusedVariables false
attribute [local go_sem] Oper.semAt_some

theorem minus_one {a b : List Sp} {x : Sp} (ha : WfC a) (hb : WfC b) (hx : B3 x) (h : ∀ n s, InS x n s → kF (memb a n s) (memb b n s) = true) : b.foldl withoutP a ≠ [] := by
  intro e
  obtain ⟨_, f⟩ := withouts_norm (b := b) hb.1.1 ha.1
  have q := h x.1 x.2.1 ⟨rfl, Int.le_refl _, by unfold B3 at hx; omega⟩
  unfold kF at q
  rw [Bool.and_eq_true, memb_iff] at q
  have m := (f x.1 x.2.1).2 ⟨q.1, by have := q.2; simpa [memb] using this⟩
  rw [e] at m
  exact mem_nil m
/-- The block of a row that is not empty. -/
def oldB (xs : List Sp) (A : Option Addr) : List Nat := if xs = [] then [] else blkOf A
theorem oldB_in (xs : List Sp) (A : Option Addr) : xs = [] ∨ ∀ a, A = some a → a.block ∈ oldB xs A := by
  by_cases h : xs = []
  · exact .inl h
  · exact .inr (fun a ha => by unfold oldB; rw [if_neg h]; exact mem_blkOf ha)
theorem oldB_of {xs : List Sp} {A : Option Addr} {i : Nat} (h : i ∈ oldB xs A) : xs ≠ [] ∧ ∃ a, A = some a ∧ a.block = i := by
  unfold oldB at h
  by_cases q : xs = []
  · rw [if_pos q] at h; cases h
  · rw [if_neg q] at h; exact ⟨q, of_blkOf h⟩
end
section
open Go.RowKit Go.Lib
set_option linter.unusedSimpArgs false
set_option linter.unusedVariables false


/-- A slice that may be handed in: an empty one may lie anywhere. -/
def FitW (w : World) (A : Option Addr) (n c : Nat) : Prop := n ≤ c ∧ c ≤ maxLen ∧ (n = 0 ∨ ∀ a, A = some a → a.block < w.heap.size)
theorem FitW.chg {S : List Nat} {w w' : World} {A : Option Addr} {n c : Nat} (h : FitW w A n c) (hc : Chg S w w') : FitW w' A n c := ⟨h.1, h.2.1, h.2.2.imp id (fun q a ha => Nat.lt_of_lt_of_le (q a ha) hc.size)⟩
def FitE (w : World) (xs : List EvT) : Prop := ∀ x ∈ xs, FitW w x.B x.bl x.bc
theorem FitE.chg {S : List Nat} {w w' : World} {xs : List EvT} (h : FitE w xs) (hc : Chg S w w') : FitE w' xs := fun x hx => (h x hx).chg hc
/-- Those of one span bring along what is ahead of them. -/
def brings1 (m : List EvP) (e : EvP) (s : Sp) : Bool := m.all (fun x => !(decide (InS s x.n x.s)) || withinE x.q e.q)
theorem brings_all (m : List EvP) (e : EvP) : bringsE m e = e.q.all (brings1 m e) := rfl
theorem brings1_no {m : List EvP} {e : EvP} {s : Sp} {i : Nat} {x : EvP} (hx : m[i]? = some x) (hi : InS s x.n x.s) (hw : withinE x.q e.q = false) : brings1 m e s = false := by
  rcases q : brings1 m e s with _ | _
  · rfl
  · have := List.all_eq_true.1 q x (List.mem_of_getElem? hx)
    rw [decide_eq_true hi, hw] at this
    exact absurd this (by decide)
theorem brings_no {m : List EvP} {e : EvP} {k : Nat} {s : Sp} (hs : e.q[k]? = some s) (h : brings1 m e s = false) : bringsE m e = false := by
  rcases q : bringsE m e with _ | _
  · rfl
  · rw [brings_all] at q
    have := List.all_eq_true.1 q s (List.mem_of_getElem? hs)
    rw [h] at this
    exact absurd this (by decide)
/-- From the first one of a span on, as long as they are of it. -/
theorem brings1_yes {w : World} {xs : List EvT} {es : List EvP} {e : EvP} {s : Sp} {i0 i : Nat} (hr : EvsR w xs es) (hu : UpE xs) (lo : LoE xs s.1 s.2.1 i0) (hi : HiE xs s.1 s.2.1 i0) (h0 : i0 ≤ i)
    (hd : ∀ (p : Nat) (x : EvP), i0 ≤ p → p < i → es[p]? = some x → withinE x.q e.q = true) (hs : ∀ x, xs[i]? = some x → ¬ (x.n = s.1 ∧ x.s ≤ s.2.2)) : brings1 es e s = true := by
  unfold brings1
  rw [List.all_eq_true]
  intro y hy
  by_cases q : InS s y.n y.s
  · obtain ⟨p, hp, rfl⟩ := List.getElem_of_mem hy
    have hpe := List.getElem?_eq_getElem hp
    obtain ⟨x, f, ex, ef, rx⟩ := hr.at_ (show p < xs.length by rw [hr.1]; exact hp)
    rw [hpe] at ef
    cases ef
    rw [← rx.n, ← rx.s] at q
    unfold InS at q
    have h1 : i0 ≤ p := by
      by_cases c : p < i0
      · have := lo p x ex c
        unfold LtD at this
        omega
      · omega
    have h2 : p < i := by
      by_cases c : p < i
      · exact c
      · exfalso
        have hi2 : i < xs.length := by have := (List.getElem?_eq_some_iff.1 ex).1; omega
        have hz := List.getElem?_eq_getElem hi2
        have a := hs _ hz
        have b := hi i _ hz h0
        unfold LtD at b
        by_cases d : p = i
        · subst d
          rw [hz] at ex
          cases ex
          omega
        · have u := up_at hu hz ex (by omega)
          unfold LtD at u
          omega
    rw [hd p _ h1 h2 hpe, Bool.or_true]
  · rw [decide_eq_false q]
    rfl
theorem all_take_succ {α : Type} {p : α → Bool} {l : List α} {k : Nat} {x : α} (h : l[k]? = some x) : (l.take (k + 1)).all p = ((l.take k).all p && p x) := by
  rw [List.take_add_one, h]
  simp
end
section
open Go.RowKit Go.WideShapes Go.ChangeShapes Go.Deep
section
variable {H : Type} {enc : TypeId × Value → H} {P : Program} {w : World} {base : Nat} {spare : Nat → Bool} {held : Bool}

theorem weights_all_mem {e : TypeId} : ∀ {l : List (DataW H)} {d : DataW H}, d ∈ l → ∀ n ∈ d.weights P e, n ∈ DataW.weightsAll P e l
  | x :: l, d, hd, n, hn => by
    simp only [DataW.weightsAll, List.mem_append]
    rcases List.mem_cons.1 hd with rfl | h
    · exact .inl hn
    · exact .inr (weights_all_mem h n hn)
theorem weights_slice {t e : TypeId} (ht : P.underlying t = some (.slice e)) {xs ys : List (DataW H)} (hz : ∀ k ∈ (DataW.slice xs ys).weights P t, k ≤ reachBytes) :
    (xs.length + ys.length) * P.bytesOf e ≤ reachBytes ∧ ∀ d ∈ xs, ∀ k ∈ d.weights P e, k ≤ reachBytes := by
  simp only [DataW.weights, ht, List.mem_cons, List.mem_append] at hz
  exact ⟨hz _ (.inl rfl), fun d hd k hk => hz k (.inr (.inl (weights_all_mem hd k hk)))⟩
theorem weights_struct {t : TypeId} {fs : Array Field} (ht : P.underlying t = some (.struct fs)) {xs : List (DataW H)} (hz : ∀ k ∈ (DataW.agg xs).weights P t, k ≤ reachBytes) {j : Nat} {f : Field} {d : DataW H} (hf : fs[j]? = some f) (hd : xs[j]? = some d) :
    ∀ k ∈ d.weights P f.type, k ≤ reachBytes := by
  simp only [DataW.weights, ht] at hz
  exact fun k hk => hz k (DataW.weights_mem_each (j := j) (by simp [hf]) hd k hk)

/-- A list of what is there for every number. -/
theorem list_of {α : Type} {Q : Nat → α → Prop} : ∀ (n : Nat), (∀ i, i < n → ∃ a, Q i a) → ∃ l : List α, l.length = n ∧ ∀ j a, l[j]? = some a → Q j a
  | 0, _ => ⟨[], rfl, by simp⟩
  | n + 1, h => by
    obtain ⟨l, h1, h2⟩ := list_of n (fun i hi => h i (by omega))
    obtain ⟨a, ha⟩ := h n (by omega)
    refine ⟨l ++ [a], by simp [h1], fun j b hj => ?_⟩
    rw [List.getElem?_append] at hj
    split at hj
    · exact h2 j b hj
    · rename_i hn
      have : j = n := by
        have := (List.getElem?_eq_some_iff.1 hj).1
        simp at this
        omega
      subst this
      rw [h1] at hj
      simp at hj
      subst hj
      exact ha
end
section
variable {H : Type} {enc : TypeId × Value → H} {w : World} {base : Nat} {spare : Nat → Bool} {held : Bool}

theorem open_bytes {n : Nat} {cs : List Value} {y : DataW H × List MemPlace} (h : DataW.trod enc Tryz.prog w base spare held n 29 cs = some y) (hz : ∀ k ∈ y.1.weights Tryz.prog 29, k ≤ reachBytes) :
    ∃ A m d ys, cs = [.slice A m d] ∧ Bs w A m ys ∧ m ≤ 140737488351232 ∧ m ≤ d ∧ d ≤ 9223372036854775807 := by
  rcases open_ints Tryz.underlying29 Tryz.underlying5 (by kernel_rfl) h with ⟨rfl, _⟩ | ⟨x, l, c, zs, rfl, _, hl, hm, hzl, rfl, hcell, hwz⟩
  · exact ⟨none, 0, 0, [], rfl, Bs.nil _ _, by decide, by decide, by decide⟩
  · have hlen : l ≤ zs.length := by rw [hzl]; split <;> omega
    have hw := (weights_slice Tryz.underlying29 hz).1
    rw [show Tryz.prog.bytesOf 5 = 1 by kernel_rfl] at hw
    refine ⟨some x, l, c, (zs.take l).map (fun z => UInt8.ofNat z.toNat), rfl, ⟨by simp; omega, fun j u hj => ⟨x, rfl, ?_⟩⟩, ?_, hl, by unfold maxLen at hm; omega⟩
    · have hjl := (List.getElem?_eq_some_iff.1 hj).1
      rw [List.length_map, List.length_take] at hjl
      have h1 : j < l := by omega
      have h2 : j < zs.length := by omega
      rw [hcell j h2]
      have hwz' := bounds_u8 (hwz (zs.getD j 0) (by simp [List.getD, h2]))
      simp only [List.getElem?_map, List.getElem?_take, if_pos h1, Option.map_eq_some_iff] at hj
      obtain ⟨z, h3, rfl⟩ := hj
      have e : zs.getD j 0 = z := by simp [List.getD, h3]
      rw [e] at hwz' ⊢
      unfold bv
      congr 2
      simp
      omega
    · simp [lits, reachBytes] at hw
      omega

theorem open_str {n : Nat} {v : Value} {y : DataW H × List MemPlace} (h : DataW.trod enc Tryz.prog w base spare held n 9 [v] = some y) (hz : ∀ k ∈ y.1.weights Tryz.prog 9, k ≤ reachBytes) : ∃ s : ByteArray, v = .string s ∧ s.size ≤ 140737488351232 := by
  obtain ⟨s, e, e', _⟩ := DataW.trod_string Tryz.underlying9 h
  refine ⟨s, List.singleton_inj.1 e, ?_⟩
  have := hz s.data.toList.length (by rw [e']; simp [DataW.weights])
  rw [Array.length_toList] at this
  exact this
set_option maxRecDepth 100000 in
/-- An effect's three cells. -/
theorem open_effect {n : Nat} {cs : List Value} {y : DataW H × List MemPlace} (h : DataW.trod enc Tryz.prog w base spare held n 31 cs = some y) (hz : ∀ k ∈ y.1.weights Tryz.prog 31, k ≤ reachBytes) :
    ∃ (k m : Int) (A : Option Addr) (n d : Nat) (ys : List UInt8), cs = [.int .i64 k, .int .i64 m, .slice A n d] ∧ Bs w A n ys ∧ n ≤ 140737488351232 ∧ n ≤ d ∧ d ≤ 9223372036854775807 := by
  obtain ⟨xs, k, rfl, rfl, hl, hx, hf⟩ := DataW.trod_struct Tryz.underlying31 h
  rw [show Tryz.prog.cellsOf 31 = 3 by kernel_rfl] at hl
  have g0 := hf 0 _ rfl
  have g1 := hf 1 _ rfl
  have g2 := hf 2 _ rfl
  change DataW.trod _ _ _ _ _ _ _ 3 ((cs.drop 0).take (Tryz.prog.cellsOf 3)) = _ at g0
  change DataW.trod _ _ _ _ _ _ _ 3 ((cs.drop 1).take (Tryz.prog.cellsOf 3)) = _ at g1
  change DataW.trod _ _ _ _ _ _ _ 29 ((cs.drop 2).take (Tryz.prog.cellsOf 29)) = _ at g2
  rw [show Tryz.prog.cellsOf 3 = 1 by kernel_rfl] at g0 g1
  rw [show Tryz.prog.cellsOf 29 = 1 by kernel_rfl] at g2
  match cs, hl with
  | [v0, v1, v2], _ =>
    match xs, hx with
    | [x0, x1, x2], _ =>
      have w2 := weights_struct Tryz.underlying31 hz (j := 2) (d := x2.1) rfl rfl
      obtain ⟨z0, e0, _, _⟩ := DataW.trod_int Tryz.underlying3 g0
      obtain ⟨z1, e1, _, _⟩ := DataW.trod_int Tryz.underlying3 g1
      obtain ⟨A, m, d, ys, e2, hb, hm, hmd, hd⟩ := open_bytes g2 w2
      simp only [List.drop_succ_cons, List.drop_zero, List.take_succ_cons, List.take_zero, List.cons.injEq, and_true] at e0 e1 e2
      subst e0 e1 e2
      exact ⟨z0, z1, A, m, d, ys, rfl, hb, hm, hmd, hd⟩
set_option maxRecDepth 100000 in
/-- A dot's two cells. -/
theorem open_dot {n : Nat} {cs : List Value} {y : DataW H × List MemPlace} (h : DataW.trod enc Tryz.prog w base spare held n 28 cs = some y) :
    ∃ (a b : Int), cs = [.int .i64 a, .int .i64 b] ∧ -9223372036854775808 ≤ a ∧ a ≤ 9223372036854775807 ∧ -9223372036854775808 ≤ b ∧ b ≤ 9223372036854775807 := by
  obtain ⟨xs, k, rfl, rfl, hl, hx, hf⟩ := DataW.trod_struct Tryz.underlying28 h
  rw [show Tryz.prog.cellsOf 28 = 2 by kernel_rfl] at hl
  have g0 := hf 0 _ rfl
  have g1 := hf 1 _ rfl
  change DataW.trod _ _ _ _ _ _ _ 3 ((cs.drop 0).take (Tryz.prog.cellsOf 3)) = _ at g0
  change DataW.trod _ _ _ _ _ _ _ 3 ((cs.drop 1).take (Tryz.prog.cellsOf 3)) = _ at g1
  rw [show Tryz.prog.cellsOf 3 = 1 by kernel_rfl] at g0 g1
  match cs, hl with
  | [v0, v1], _ =>
    match xs, hx with
    | [x0, x1], _ =>
      obtain ⟨z0, e0, _, b0⟩ := DataW.trod_int Tryz.underlying3 g0
      obtain ⟨z1, e1, _, b1⟩ := DataW.trod_int Tryz.underlying3 g1
      have c0 := bounds_i64 b0
      have c1 := bounds_i64 b1
      simp only [List.drop_succ_cons, List.drop_zero, List.take_succ_cons, List.take_zero, List.cons.injEq, and_true] at e0 e1
      subst e0 e1
      exact ⟨z0, z1, rfl, c0.1, c0.2, c1.1, c1.2⟩
end
end
section
open Go.RowKit Go.WideShapes Go.ChangeShapes Go.Deep
set_option linter.unusedSimpArgs false
section
variable {H : Type} {enc : TypeId × Value → H} {w : World} {base : Nat} {spare : Nat → Bool} {held : Bool}
set_option maxRecDepth 100000 in
/-- A span's three cells. -/
theorem open_span {n : Nat} {cs : List Value} {y : DataW H × List MemPlace} (h : DataW.trod enc Tryz.prog w base spare held n 47 cs = some y) :
    ∃ (a b c : Int), cs = [.int .i64 a, .int .i64 b, .int .i64 c] := by
  obtain ⟨xs, k, rfl, rfl, hl, hx, hf⟩ := DataW.trod_struct Tryz.underlying47 h
  rw [show Tryz.prog.cellsOf 47 = 3 by kernel_rfl] at hl
  have g0 := hf 0 _ rfl
  have g1 := hf 1 _ rfl
  have g2 := hf 2 _ rfl
  change DataW.trod _ _ _ _ _ _ _ 3 ((cs.drop 0).take (Tryz.prog.cellsOf 3)) = _ at g0
  change DataW.trod _ _ _ _ _ _ _ 3 ((cs.drop 1).take (Tryz.prog.cellsOf 3)) = _ at g1
  change DataW.trod _ _ _ _ _ _ _ 3 ((cs.drop 2).take (Tryz.prog.cellsOf 3)) = _ at g2
  rw [show Tryz.prog.cellsOf 3 = 1 by kernel_rfl] at g0 g1 g2
  match cs, hl with
  | [v0, v1, v2], _ =>
    match xs, hx with
    | [x0, x1, x2], _ =>
      obtain ⟨z0, e0, _, _⟩ := DataW.trod_int Tryz.underlying3 g0
      obtain ⟨z1, e1, _, _⟩ := DataW.trod_int Tryz.underlying3 g1
      obtain ⟨z2, e2, _, _⟩ := DataW.trod_int Tryz.underlying3 g2
      simp only [List.drop_succ_cons, List.drop_zero, List.take_succ_cons, List.take_zero, List.cons.injEq, and_true] at e0 e1 e2
      subst e0 e1 e2
      exact ⟨z0, z1, z2, rfl⟩
theorem open_spans {n : Nat} {cs : List Value} {y : DataW H × List MemPlace} (h : DataW.trod enc Tryz.prog w base spare held n 32 cs = some y) (hz : ∀ k ∈ y.1.weights Tryz.prog 32, k ≤ reachBytes) :
    ∃ A m d zs, cs = [.slice A m d] ∧ RdK spanTy w A m zs ∧ m * 24 ≤ 140737488351232 ∧ m ≤ d := by
  rcases open_slice Tryz.underlying32 h with ⟨rfl, _⟩ | ⟨a, len, cap, m, k, D, Pl, rfl, _, hl, hm, hmm, rfl, hi⟩
  · exact ⟨none, 0, 0, [], rfl, RdK.nil _ _, by decide, by decide⟩
  · have hlm : len ≤ m := by rw [hmm]; split <;> omega
    obtain ⟨hw, _⟩ := weights_slice Tryz.underlying32 hz
    rw [show Tryz.prog.bytesOf 47 = 24 by kernel_rfl] at hw
    simp [reachBytes] at hw
    have hC : Tryz.prog.cellsOf 47 = 3 := by kernel_rfl
    obtain ⟨l, hll, hat⟩ := list_of (Q := fun i (x : Int × Int × Int) => w.cell? (a.add (i * 3)) = some (.int .i64 x.1) ∧ w.cell? (a.add (i * 3 + 1)) = some (.int .i64 x.2.1) ∧ w.cell? (a.add (i * 3 + 2)) = some (.int .i64 x.2.2)) len (fun i hilt => by
      obtain ⟨cs', hc, ht⟩ := hi i (by omega)
      rw [hC] at hc
      obtain ⟨_, hcl, hat⟩ := World.cells?_some hc
      obtain ⟨p, q, r, rfl⟩ := open_span ht
      have g0 := hat 0 (by omega)
      have g1 := hat 1 (by omega)
      have g2 := hat 2 (by omega)
      rw [add_add] at g0 g1 g2
      exact ⟨(p, q, r), g0, g1, g2⟩)
    refine ⟨some a, len, cap, l, rfl, ⟨hll, fun j v hj => ⟨a, rfl, ?_⟩⟩, by omega, hl⟩
    have hj2 := (List.getElem?_eq_some_iff.1 hj).1
    rw [spanTy.flat_len] at hj2
    have hk : spanTy.k = 3 := rfl
    rw [hk] at hj2
    have hq : j / 3 < l.length := by omega
    have e := spanTy.flat_at l (j / 3) (j % 3) _ (List.getElem?_eq_getElem hq) (Nat.mod_lt _ (by decide))
    rw [hk, Nat.div_add_mod', hj] at e
    obtain ⟨g0, g1, g2⟩ := hat (j / 3) _ (List.getElem?_eq_getElem hq)
    rcases (show j % 3 = 0 ∨ j % 3 = 1 ∨ j % 3 = 2 by omega) with h0 | h0 | h0
    · rw [h0] at e
      rw [show j / 3 * 3 = j by omega] at g0
      rw [g0]
      exact e.symm
    · rw [h0] at e
      rw [show j / 3 * 3 + 1 = j by omega] at g1
      rw [g1]
      exact e.symm
    · rw [h0] at e
      rw [show j / 3 * 3 + 2 = j by omega] at g2
      rw [g2]
      exact e.symm
end
end
section
open Go.RowKit Go.WideShapes Go.ChangeShapes Go.Deep
set_option linter.unusedVariables false
variable {H : Type} {enc : TypeId × Value → H} {P : Program} {w : World} {base : Nat} {spare : Nat → Bool} {held : Bool}
set_option maxRecDepth 100000 in
/-- How large an event is that is handed in. -/
def EvZ (x : EvT) (e : EvP) : Prop := e.b.length ≤ 140737488351232 ∧ e.q.length * 24 ≤ 140737488351232 ∧ e.p.length ≤ 140737488351232 ∧ (x.l ≤ x.c ∧ x.c ≤ 9223372036854775807 ∧ x.bl ≤ x.bc ∧ x.bc ≤ 9223372036854775807) ∧ (-9223372036854775808 ≤ e.n ∧ e.n ≤ 9223372036854775807 ∧ -9223372036854775808 ≤ e.s ∧ e.s ≤ 9223372036854775807)
theorem cap_spans {n : Nat} {B : Option Addr} {q d : Nat} {y : DataW H × List MemPlace} (h : DataW.trod enc Tryz.prog w base spare held n 32 [.slice B q d] = some y) : d ≤ 9223372036854775807 := by
  rcases open_slice Tryz.underlying32 h with ⟨e, _⟩ | ⟨a, len, cap, m, k, D, Pl, e, _, _, hm, _⟩
  · cases e; omega
  · cases e; exact hm
set_option maxRecDepth 100000 in
theorem open_event {n : Nat} {cs : List Value} {y : DataW H × List MemPlace} (h : DataW.trod enc Tryz.prog w base spare held n 34 cs = some y) (hz : ∀ k ∈ y.1.weights Tryz.prog 34, k ≤ reachBytes) :
    ∃ (x : EvT) (e : EvP), cs = [.int .i64 x.n, .int .i64 x.s, .string x.p, .int .i64 x.k, .int .i64 x.m, .slice x.A x.l x.c, .slice x.B x.bl x.bc] ∧ EvR w x e ∧ EvZ x e := by
  obtain ⟨xs, k, rfl, rfl, hl, hx, hf⟩ := DataW.trod_struct Tryz.underlying34 h
  rw [show Tryz.prog.cellsOf 34 = 7 by kernel_rfl] at hl
  have g0 := hf 0 _ rfl
  have g1 := hf 1 _ rfl
  have g2 := hf 2 _ rfl
  have g3 := hf 3 _ rfl
  change DataW.trod _ _ _ _ _ _ _ 28 ((cs.drop 0).take (Tryz.prog.cellsOf 28)) = _ at g0
  change DataW.trod _ _ _ _ _ _ _ 9 ((cs.drop 2).take (Tryz.prog.cellsOf 9)) = _ at g1
  change DataW.trod _ _ _ _ _ _ _ 31 ((cs.drop 3).take (Tryz.prog.cellsOf 31)) = _ at g2
  change DataW.trod _ _ _ _ _ _ _ 32 ((cs.drop 6).take (Tryz.prog.cellsOf 32)) = _ at g3
  rw [show Tryz.prog.cellsOf 28 = 2 by kernel_rfl] at g0
  rw [show Tryz.prog.cellsOf 9 = 1 by kernel_rfl] at g1
  rw [show Tryz.prog.cellsOf 31 = 3 by kernel_rfl] at g2
  rw [show Tryz.prog.cellsOf 32 = 1 by kernel_rfl] at g3
  match cs, hl with
  | [v0, v1, v2, v3, v4, v5, v6], _ =>
    match xs, hx with
    | [x0, x1, x2, x3], _ =>
      have w2 := weights_struct Tryz.underlying34 hz (j := 2) (d := x2.1) rfl rfl
      have w3 := weights_struct Tryz.underlying34 hz (j := 3) (d := x3.1) rfl rfl
      have w1 := weights_struct Tryz.underlying34 hz (j := 1) (d := x1.1) rfl rfl
      obtain ⟨a, b, e0, r0⟩ := open_dot g0
      simp only [List.drop_succ_cons, List.drop_zero, List.take_succ_cons, List.take_zero] at g1
      obtain ⟨s, e1, r1⟩ := open_str g1 w1
      obtain ⟨k, m, A, n, c, ys, e2, r2⟩ := open_effect g2 w2
      obtain ⟨B, q, d, zs, e3, r3⟩ := open_spans g3 w3
      simp only [List.drop_succ_cons, List.drop_zero, List.take_succ_cons, List.take_zero, List.cons.injEq, and_true] at e0 e2 e3
      obtain ⟨rfl, rfl⟩ := e0
      obtain ⟨rfl, rfl, rfl⟩ := e2
      subst e1 e3
      refine ⟨⟨a, b, s, k, m, A, n, c, B, q, d⟩, ⟨a, b, s.data.toList, k, m, ys, zs⟩, rfl, ⟨rfl, rfl, (strOf_of s).symm, rfl, rfl, r2.1.len.symm, r3.1.len.symm, r2.1, r3.1⟩, ?_⟩
      simp only [List.drop_succ_cons, List.drop_zero, List.take_succ_cons, List.take_zero] at g3
      have l4 := cap_spans g3
      have hs : s.data.toList.length = s.size := rfl
      have l2 := r2.1.len
      have l3 := r3.1.len
      refine ⟨?_, ?_, ?_, ⟨?_, ?_, ?_, ?_⟩, r0⟩
      all_goals (simp only; omega)
end
section
open Go.RowKit Go.Lib
set_option linter.unusedSimpArgs false
set_option linter.unusedVariables false


theorem fit_args {w : World} {xs : List EvT} {es : List EvP} (hr : EvsR w xs es) (hz : ∀ (i : Nat) (x : EvT) (e : EvP), xs[i]? = some x → es[i]? = some e → EvZ x e) : FitE w xs := fun x hx => by
  obtain ⟨i, hi⟩ := List.getElem?_of_mem hx
  obtain ⟨x2, e, ex, ee, rx⟩ := hr.at_ (show i < xs.length from (List.getElem?_eq_some_iff.1 hi).1)
  rw [hi] at ex
  cases ex
  have z := (hz i x e hi ee).2.2.2.1
  refine ⟨z.2.2.1, z.2.2.2, ?_⟩
  by_cases h0 : x.bl = 0
  · exact .inl h0
  · obtain ⟨g, o, eA, hl⟩ := rx.B.line (by omega)
    exact .inr (fun a ha => by rw [eA] at ha; cases ha; exact hl)
theorem smallEvs {w : World} {xs : List EvT} {es : List EvP} {most : Nat} (hr : EvsR w xs es) (hl : longE xs most = false) : (∀ e ∈ es, EvSm e ∧ e.q.length ≤ 100 ∧ e.b.length ≤ 1200) ∧ xs.length ≤ most := by
  have sm := longE_no hl
  refine ⟨fun e he => ?_, sm.1⟩
  obtain ⟨i, hi, rfl⟩ := List.getElem_of_mem he
  obtain ⟨x, f, ex, ef, rx⟩ := hr.at_ (show i < xs.length by rw [hr.1]; exact hi)
  rw [List.getElem?_eq_getElem hi] at ef
  cases ef
  have q := sm.2 x (List.mem_of_getElem? ex)
  have a1 := rx.l
  have a2 := rx.bl
  have a3 := rx.p
  have a4 : x.p.size = es[i].p.length := by rw [a3, strOf_size]
  unfold bigE at q
  unfold EvSm
  omega
end
section
open Go.RowKit Go.Lib
set_option linter.unusedSimpArgs false
set_option linter.unusedVariables false


theorem within_sub {a b : List Sp} (h : withinE a b = true) : ∀ n s, Mem a n s → Mem b n s := by
  unfold withinE at h
  rw [Bool.and_eq_true, decide_eq_true_iff, decide_eq_true_iff] at h
  have wa := (wf_of_chk h.1.1).1
  have wb := (wf_of_chk h.1.2).1
  have t := withouts_norm (b := b) (a := a) wb.1.1 wa.1
  intro n s hm
  by_cases q : Mem b n s
  · exact q
  · have := (t.2 n s).2 ⟨hm, q⟩
    rw [h.2] at this
    exact absurd this mem_nil
theorem closed_ok {es : List EvP} (h : closedE es = true) : okAll es = true ∧ es.Pairwise OkTwo := by
  unfold closedE at h
  rw [Bool.and_eq_true, decide_eq_true_iff] at h
  exact h
theorem ahead_iff {a b : EvP} (ha : chkEv a = 0) (hb : chkEv b = 0) : aheadP a b = true ↔ Mem b.q a.n a.s := by
  unfold aheadP
  rw [has_iff (chk_fine hb).1, decide_eq_true ha, decide_eq_true hb]
  simp
theorem ahead_no {a b : EvP} (ha : chkEv a = 0) (hb : chkEv b = 0) (h : ¬ Mem b.q a.n a.s) : aheadP a b = false := by
  rcases q : aheadP a b with _ | _
  · rfl
  · exact absurd ((ahead_iff ha hb).1 q) h
theorem closed_in {es : List EvP} (h : closedE es = true) {i k : Nat} {a b : EvP} (ha : es[i]? = some a) (hb : es[k]? = some b) (hx : aheadP a b = true) : ∀ n s, Mem a.q n s → Mem b.q n s := by
  by_cases q : k = i
  · subst q
    rw [ha] at hb
    cases hb
    exact fun n s h => h
  · exact within_sub ((pair_at.1 (closed_ok h).2 i k a b ha hb q).2 hx)
theorem order_three {es : List EvP} (h : closedE es = true) {i k j : Nat} {a b c : EvP} (ha : es[i]? = some a) (hb : es[k]? = some b) (hc : es[j]? = some c) (hx : aheadP a b = true) (hy : aheadP b c = true) : aheadP a c = true := by
  have ok := okAll_iff.1 (closed_ok h).1
  have ca := ok a (List.mem_of_getElem? ha)
  have cb := ok b (List.mem_of_getElem? hb)
  have cc := ok c (List.mem_of_getElem? hc)
  exact (ahead_iff ca cc).2 (closed_in h hb hc hy _ _ ((ahead_iff ca cb).1 hx))
end
end Go.Proofs.YtoepejgldbbloaaGreatDoor
