/- A range over a function whose iterator hands over what it has laid itself; the body always goes on: no program here. A range over a function whose iterator writes cells of its own (blocks Si), with a body that writes cells of its caller's (blocks T) and may leave: no program here. As XRangeo, over a method as a value (bound arguments la). A range over a function whose body also makes memory of its own (a row that grows): the iterator promises to leave alone all that there is but its own blocks. No program here. As XRangeo, over a method as a value (bound arguments), whose round begins with a box of its own for what was handed over. A range over a function whose body also makes memory of its own (a row that grows): the iterator promises to leave alone all that there is but its own blocks. No program here. A range over a function whose body also makes memory of its own (a row that grows): the iterator promises to leave alone all that there is but its own blocks. No program here. Rows in the body of a range over a function (taken from XToway by gen/Ckcut2.py). -/
import Derived.RangeFuncNested
import Derived.RangeFuncBound
import Derived.RangeFuncCalls
import Derived.RangeFuncLeaves
import Derived.Shelf.Abstract
import Derived.Shelf.RegionOpen
import Derived.WalkKit
import Derived.OwnWalkIn
import Derived.TacticsInMore
import Derived.LoopNIn
import Derived.LoopIn
import Derived.Test.YtgafkphhnlifiaaMem
import Derived.Test.YtgafkphhnlifiaaRowK
namespace Go.Proofs.Ytgafkphhnlifiaa
section
open Go.RowKit

theorem range_all {α : Type} {P : Program} {n : Nat} {g : Operand} {ps : Array Tmp} {assign body : Code} {Q : Exit → Act → World → Prop} {a : Act} {w : World} {gf : Nat} {lb : Array Value}
    (hg : a.eval g = .func (.func gf) #[] lb) (eg : ∀ args w, (callFunc gf args).run P w = .ok (.enter gf args) w) {encs : α → Array Value} {S : List α → Prop} {Ex : List α → α → World → Prop} {n₁ : Nat} (hn₁ : n₁ ≤ w.heap.size)
    (hseq : ∀ (l : Nat) (J : List α → World → Prop) (W : World), Below w.heap.size w W → (∀ pre A B, J pre A → Below W.heap.size A B → J pre B) →
      (∀ pre x W1, J pre W1 → Ex pre x W1 → YieldAt Fence.wide (n - 1 - 1) P l (encs x) W1 fun e W' => e = .returned (.bool true) ∧ J (pre ++ [x]) W' ∧ Below n₁ W1 W') →
      J [] W → CallsIn Fence.wide (n - 1) P gf (#[.func (.yield l) #[] #[]] ++ lb) W fun e W' => (∃ v, e = .returned v) ∧ ∃ xs, S xs ∧ J xs W')
    (hps : ∀ x, (encs x).size = ps.size) (I : List α → World → Prop) (hI : ∀ pre A B, I pre A → Below w.heap.size A B → I pre B) (h0 : I [] w)
    (hEx : ∀ pre x W l o o', W.heap[l]? = some o → o.isCells = false → Ex pre x W → Ex pre x (W.putObj l o')) (a₁ : α → Act)
    (hassign : ∀ (l : Nat) (x : α) (W : World) (K : Act → World → Prop), K (a₁ x) W →
      assign.wpIn (Fence.wide.inRound l) (n - 1 - 1) P (Exit.then K (fun _ _ _ => False)) { tmps := (ps.zip (encs x)).foldl (fun t (p, v) => t.setIfInBounds p v) a.tmps, defers := [] } W)
    (hbody : ∀ (l : Nat) (pre : List α) (x : α) (W : World), I pre W → Ex pre x W → body.wpIn (Fence.wide.inRound l) (n - 1 - 1) P (fun e _ W' => e = .normal ∧ KeepsOthers W W' ∧ Below n₁ W W' ∧ I (pre ++ [x]) W') (a₁ x) W)
    (hdone : ∀ (D : Nat) (xs : List α) (W : World), w.heap.size ≤ D → S xs → I xs W → W.heap[D]? = some (.deferred (some [])) → Q .normal { a with defers := { target := .collected D, args := #[] } :: a.defers } W) :
    (Code.rangeFunc g ps assign body).wpIn Fence.wide n P Q a w := by
  refine wpIn_rangeFunc ?_
  intro fn hfn
  obtain ⟨rc, hrc⟩ : ∃ rc : LoopState → Option Code → Loop, rc = fun st pe => { state := st, pending := pe, fn, tmps := a.tmps, params := ps, assign, body, defers := w.heap.size } := ⟨_, rfl⟩
  obtain ⟨V, hV, hcV, hD0, hL0⟩ := news2 w (.deferred (some [])) (.loop (rc .ready none))
  have hsV : V.heap.size = w.heap.size + 2 := by rw [hV]; simp
  have bV : Below w.heap.size w V := by rw [hV]; exact ((Below.refl _ w).alloc (Nat.le_refl _) _).alloc (by simp) _
  refine ⟨w.heap.size + 1, [{ target := .collected w.heap.size, args := #[] }], V, { target := .fn (.func gf) lb, args := #[.func (.yield (w.heap.size + 1)) #[] #[]] }, V, gf,
    #[.func (.yield (w.heap.size + 1)) #[] #[]] ++ lb, V, ?_, ?_, fun _ _ => trivial, ?_, fun h => by simp [Fence.wide] at h, ?_⟩
  · rw [hV, hrc]; exact run_enterLoop_outer _ _ _ _ _
  · simp only [resolve, hg]
    simp [go_sem]
  · simp [invoke, go_sem, eg]
  · -- the record and the row of deferred calls, turned or not, lie at or behind w's end
    have turn : ∀ (W : World) (o : Obj) (o' : Obj), W.heap[w.heap.size + 1]? = some o → o.isCells = false → o.isWalk = false → ∀ m, m ≤ w.heap.size → Below m W (W.putObj (w.heap.size + 1) o') :=
      fun W o o' h hc hw m hm => belowK_b (w := w) hm W _ o o' (by omega) h hc hw
    refine (hseq (w.heap.size + 1) (fun pre W => I pre W ∧ W.heap[w.heap.size + 1]? = some (.loop (rc .ready none)) ∧ W.heap[w.heap.size]? = some (.deferred (some []))) V bV ?_ ?_ ⟨hI _ _ _ h0 bV, hL0, hD0⟩).mono ?_
    · rintro pre A B ⟨hi, hl, hk⟩ hb
      exact ⟨hI _ _ _ hi ⟨hb.os, hb.tape, hb.output, hb.size, fun k hk => hb.block k (by omega)⟩, (hb.block _ (by omega)).trans hl, (hb.block _ (by omega)).trans hk⟩
    · rintro pre x W ⟨hi, hl, hk⟩ hx
      have hlt := lt_of_heap hl
      have hy := run_yield (P := P) (args := encs x) hl (by rw [hrc]; exact hps x)
      rw [hrc] at hy
      refine ⟨fn, _, assign, body, hy, roundIn_of_wpIn hfn (hassign _ x W _ ⟨_, run_beginRound hl (by rw [hrc]), ?_⟩)⟩
      have hl2 : (W.putObj (w.heap.size + 1) (.loop { rc .ready none with state := .busy })).heap[w.heap.size + 1]? = some (.loop { rc .ready none with state := .busy }) := World.putObj_heap_same hlt
      have hk2 : (W.putObj (w.heap.size + 1) (.loop { rc .ready none with state := .busy })).heap[w.heap.size]? = some (.deferred (some [])) := (World.putObj_heap_other (by omega)).trans hk
      have b2 := turn W _ (.loop { rc .ready none with state := .busy }) hl rfl rfl
      refine wpIn_mono (hbody _ pre x _ (hI _ _ _ hi (b2 _ (Nat.le_refl _))) (hEx pre x W _ _ _ hl rfl hx)) ?_
      rintro e a3 W3 ⟨rfl, hk3, hb3, hi3⟩
      have hl3 := hk3.same _ _ hl2 rfl
      have hd3 := hk3.same _ _ hk2 rfl
      have hr := run_endRound (P := P) none hl3
      have b4 := turn W3 _ (.loop (rc .ready none)) hl3 rfl rfl
      refine ⟨_, _, hr, rfl, ⟨?_, ?_, ?_⟩, ?_⟩
      · have := hI _ _ _ hi3 (b4 _ (Nat.le_refl _))
        rw [hrc] at this ⊢
        exact this
      · rw [hrc]; exact World.putObj_heap_same (lt_of_heap hl3)
      · exact (World.putObj_heap_other (by omega)).trans hd3
      · have := ((b2 _ hn₁).trans hb3).trans (b4 _ hn₁)
        rw [hrc] at this ⊢
        exact this
    · rintro e W2 ⟨⟨v, rfl⟩, xs, hS, hi, hl, hk⟩
      refine ⟨none, _, by have := run_endLoop (P := P) hl (by rw [hrc]; simp); rw [hrc] at this; exact this, hdone _ xs _ (Nat.le_refl _) hS ?_ ((World.putObj_heap_other (by omega)).trans hk)⟩
      exact hI _ _ _ hi (turn W2 _ _ hl rfl rfl _ (Nat.le_refl _))
end
section
open Go.RowKit

/-- Below n, only the blocks T may have turned. -/
structure Kpt (n : Nat) (T : List Nat) (w w' : World) : Prop where
  os : w'.os = w.os
  tape : w'.tape = w.tape
  output : w'.output = w.output
  size : w.heap.size ≤ w'.heap.size
  block : ∀ k, k < n → k ∉ T → w'.heap[k]? = w.heap[k]?
theorem Kpt.refl (n : Nat) (T : List Nat) (w : World) : Kpt n T w w := ⟨rfl, rfl, rfl, Nat.le_refl _, fun _ _ _ => rfl⟩
theorem Kpt.trans {n : Nat} {T : List Nat} {a b c : World} (h : Kpt n T a b) (k : Kpt n T b c) : Kpt n T a c :=
  ⟨k.os.trans h.os, k.tape.trans h.tape, k.output.trans h.output, Nat.le_trans h.size k.size, fun i hi hn => (k.block i hi hn).trans (h.block i hi hn)⟩
theorem Kpt.of_chg {n : Nat} {T : List Nat} {a b : World} (h : Chg T a b) (hn : n ≤ a.heap.size) : Kpt n T a b :=
  ⟨h.os, h.tape, h.output, h.size, fun k hk hT => h.block k (by omega) hT⟩
theorem Kpt.of_below {n m : Nat} {T : List Nat} {a b : World} (h : Below m a b) (hn : n ≤ m) : Kpt n T a b :=
  ⟨h.os, h.tape, h.output, h.size, fun k hk _ => h.block k (by omega)⟩
theorem Kpt.mono {n m : Nat} {S T : List Nat} {a b : World} (h : Kpt m S a b) (hn : n ≤ m) (hS : ∀ x ∈ S, x ∈ T) : Kpt n T a b :=
  ⟨h.os, h.tape, h.output, h.size, fun k hk hT => h.block k (by omega) (fun hs => hT (hS k hs))⟩
theorem Kpt.chg {T : List Nat} {a b : World} (h : Kpt a.heap.size T a b) : Chg T a b := ⟨h.os, h.tape, h.output, h.size, fun k hk hT => h.block k hk hT⟩

/-- How a round's body may be left. -/
def brkPost {α : Type} (I : List α → World → Prop) (Ix : Code → List α → World → Prop) (n₁ : Nat) (T : List Nat) (xs : List α) (W : World) : Exit → Act → World → Prop
  | .normal, _, W' => KeepsOthers W W' ∧ Kpt n₁ T W W' ∧ I xs W'
  | .ret, _, W' => KeepsOthers W W' ∧ Ix .ret xs W'
  | .exit id, _, W' => KeepsOthers W W' ∧ Ix (.exit id) xs W'
  | _, _, _ => False

theorem range_brk {α : Type} {P : Program} {n : Nat} {g : Operand} {ps : Array Tmp} {assign body : Code} {Q : Exit → Act → World → Prop} {a : Act} {w : World} {gf : Nat} {lb : Array Value}
    (hg : a.eval g = .func (.func gf) #[] lb) (eg : ∀ args w, (callFunc gf args).run P w = .ok (.enter gf args) w) {encs : α → Array Value} {S Sp : List α → Prop} {Ex : List α → α → World → Prop} {n₁ : Nat} (hn₁ : n₁ ≤ w.heap.size) {Si T : List Nat} (hSi : ∀ x ∈ Si, x < w.heap.size)
    (hseq : ∀ (l : Nat) (J Jx : List α → World → Prop) (W : World), Below w.heap.size w W → (∀ pre A B, J pre A → Kpt W.heap.size Si A B → J pre B) → (∀ pre A B, Jx pre A → Kpt W.heap.size Si A B → Jx pre B) →
      (∀ pre x W1, J pre W1 → Ex pre x W1 → YieldAt Fence.wide (n - 1 - 1) P l (encs x) W1 fun e W' => (e = .returned (.bool true) ∧ J (pre ++ [x]) W' ∧ Kpt n₁ T W1 W') ∨ (e = .returned (.bool false) ∧ Jx (pre ++ [x]) W')) →
      J [] W → CallsIn Fence.wide (n - 1) P gf (#[.func (.yield l) #[] #[]] ++ lb) W fun e W' => (∃ v, e = .returned v) ∧ ((∃ xs, S xs ∧ J xs W') ∨ ∃ xs, Sp xs ∧ Jx xs W'))
    (hps : ∀ x, (encs x).size = ps.size) (I : List α → World → Prop) (Ix : Code → List α → World → Prop) (hI : ∀ pre A B, I pre A → Kpt w.heap.size Si A B → I pre B) (hIx : ∀ c pre A B, Ix c pre A → Kpt w.heap.size Si A B → Ix c pre B) (h0 : I [] w)
    (hEx : ∀ pre x W l o o', W.heap[l]? = some o → o.isCells = false → Ex pre x W → Ex pre x (W.putObj l o')) (a₁ : α → Act)
    (hassign : ∀ (l : Nat) (x : α) (W : World) (K : Act → World → Prop), K (a₁ x) W →
      assign.wpIn (Fence.wide.inRound l) (n - 1 - 1) P (Exit.then K (fun _ _ _ => False)) { tmps := (ps.zip (encs x)).foldl (fun t (p, v) => t.setIfInBounds p v) a.tmps, defers := [] } W)
    (hbody : ∀ (l : Nat) (pre : List α) (x : α) (W : World), I pre W → Ex pre x W → body.wpIn (Fence.wide.inRound l) (n - 1 - 1) P (brkPost I Ix n₁ T (pre ++ [x]) W) (a₁ x) W)
    (hdone : ∀ (D : Nat) (xs : List α) (W : World), w.heap.size ≤ D → S xs → I xs W → W.heap[D]? = some (.deferred (some [])) → Q .normal { a with defers := { target := .collected D, args := #[] } :: a.defers } W)
    (hstop : ∀ (D : Nat) (c : Code) (xs : List α) (W : World), w.heap.size ≤ D → Sp xs → Ix c xs W → W.heap[D]? = some (.deferred (some [])) → c.wpIn Fence.wide n P Q { a with defers := { target := .collected D, args := #[] } :: a.defers } W) :
    (Code.rangeFunc g ps assign body).wpIn Fence.wide n P Q a w := by
  refine wpIn_rangeFunc ?_
  intro fn hfn
  obtain ⟨rc, hrc⟩ : ∃ rc : LoopState → Option Code → Loop, rc = fun st pe => { state := st, pending := pe, fn, tmps := a.tmps, params := ps, assign, body, defers := w.heap.size } := ⟨_, rfl⟩
  obtain ⟨V, hV, hcV, hD0, hL0⟩ := news2 w (.deferred (some [])) (.loop (rc .ready none))
  have hsV : V.heap.size = w.heap.size + 2 := by rw [hV]; simp
  have bV : Below w.heap.size w V := by rw [hV]; exact ((Below.refl _ w).alloc (Nat.le_refl _) _).alloc (by simp) _
  refine ⟨w.heap.size + 1, [{ target := .collected w.heap.size, args := #[] }], V, { target := .fn (.func gf) lb, args := #[.func (.yield (w.heap.size + 1)) #[] #[]] }, V, gf,
    #[.func (.yield (w.heap.size + 1)) #[] #[]] ++ lb, V, ?_, ?_, fun _ _ => trivial, ?_, fun h => by simp [Fence.wide] at h, ?_⟩
  · rw [hV, hrc]; exact run_enterLoop_outer _ _ _ _ _
  · simp only [resolve, hg]
    simp [go_sem]
  · simp [invoke, go_sem, eg]
  · -- the record and the row of deferred calls, turned or not, lie at or behind w's end
    have turn : ∀ (W : World) (o : Obj) (o' : Obj), W.heap[w.heap.size + 1]? = some o → o.isCells = false → o.isWalk = false → ∀ m, m ≤ w.heap.size → Below m W (W.putObj (w.heap.size + 1) o') :=
      fun W o o' h hc hw m hm => belowK_b (w := w) hm W _ o o' (by omega) h hc hw
    have far : ∀ k, w.heap.size ≤ k → k ∉ Si := fun k hk h => by have := hSi k h; omega
    refine (hseq (w.heap.size + 1) (fun pre W => I pre W ∧ W.heap[w.heap.size + 1]? = some (.loop (rc .ready none)) ∧ W.heap[w.heap.size]? = some (.deferred (some [])))
      (fun pre W => ∃ c, Ix c pre W ∧ W.heap[w.heap.size + 1]? = some (.loop (rc .done (some c))) ∧ W.heap[w.heap.size]? = some (.deferred (some []))) V bV ?_ ?_ ?_
      ⟨hI _ _ _ h0 (Kpt.of_below bV (Nat.le_refl _)), hL0, hD0⟩).mono ?_
    · rintro pre A B ⟨hi, hl, hk⟩ hb
      exact ⟨hI _ _ _ hi (hb.mono (by omega) (fun _ h => h)), (hb.block _ (by omega) (far _ (by omega))).trans hl, (hb.block _ (by omega) (far _ (Nat.le_refl _))).trans hk⟩
    · rintro pre A B ⟨c, hi, hl, hk⟩ hb
      exact ⟨c, hIx _ _ _ _ hi (hb.mono (by omega) (fun _ h => h)), (hb.block _ (by omega) (far _ (by omega))).trans hl, (hb.block _ (by omega) (far _ (Nat.le_refl _))).trans hk⟩
    · rintro pre x W ⟨hi, hl, hk⟩ hx
      have hlt := lt_of_heap hl
      have hy := run_yield (P := P) (args := encs x) hl (by rw [hrc]; exact hps x)
      rw [hrc] at hy
      refine ⟨fn, _, assign, body, hy, roundIn_of_wpIn hfn (hassign _ x W _ ⟨_, run_beginRound hl (by rw [hrc]), ?_⟩)⟩
      have hl2 : (W.putObj (w.heap.size + 1) (.loop { rc .ready none with state := .busy })).heap[w.heap.size + 1]? = some (.loop { rc .ready none with state := .busy }) := World.putObj_heap_same hlt
      have hk2 : (W.putObj (w.heap.size + 1) (.loop { rc .ready none with state := .busy })).heap[w.heap.size]? = some (.deferred (some [])) := (World.putObj_heap_other (by omega)).trans hk
      have b2 := turn W _ (.loop { rc .ready none with state := .busy }) hl rfl rfl
      refine wpIn_mono (hbody _ pre x _ (hI _ _ _ hi (Kpt.of_below (b2 _ (Nat.le_refl _)) (Nat.le_refl _))) (hEx pre x W _ _ _ hl rfl hx)) ?_
      have fin : ∀ (c : Code) (W3 : World), KeepsOthers (W.putObj (w.heap.size + 1) (.loop { rc .ready none with state := .busy })) W3 → Ix c (pre ++ [x]) W3 →
          ∃ v w', (Instr.endRound (w.heap.size + 1) (some c)).run P W3 = .ok v w' ∧ ((Ending.returned v = .returned (.bool true) ∧ (I (pre ++ [x]) w' ∧ w'.heap[w.heap.size + 1]? = some (.loop (rc .ready none)) ∧ w'.heap[w.heap.size]? = some (.deferred (some []))) ∧ Kpt n₁ T W w') ∨
            (Ending.returned v = .returned (.bool false) ∧ ∃ c, Ix c (pre ++ [x]) w' ∧ w'.heap[w.heap.size + 1]? = some (.loop (rc .done (some c))) ∧ w'.heap[w.heap.size]? = some (.deferred (some [])))) := by
        intro c W3 hk3 hi3
        have hl3 := hk3.same _ _ hl2 rfl
        have hd3 := hk3.same _ _ hk2 rfl
        have hr := run_endRound (P := P) (some c) hl3
        have b4 := turn W3 _ (.loop (rc .done (some c))) hl3 rfl rfl
        refine ⟨_, _, hr, .inr ⟨rfl, c, ?_, ?_, ?_⟩⟩
        · have := hIx _ _ _ _ hi3 (Kpt.of_below (b4 _ (Nat.le_refl _)) (Nat.le_refl _))
          rw [hrc] at this ⊢
          exact this
        · rw [hrc]; exact World.putObj_heap_same (lt_of_heap hl3)
        · exact (World.putObj_heap_other (by omega)).trans hd3
      rintro e a3 W3 hp
      cases e with
      | normal =>
        obtain ⟨hk3, hb3, hi3⟩ := hp
        have hl3 := hk3.same _ _ hl2 rfl
        have hd3 := hk3.same _ _ hk2 rfl
        have hr := run_endRound (P := P) none hl3
        have b4 := turn W3 _ (.loop (rc .ready none)) hl3 rfl rfl
        refine ⟨_, _, hr, .inl ⟨rfl, ⟨?_, ?_, ?_⟩, ?_⟩⟩
        · have := hI _ _ _ hi3 (Kpt.of_below (b4 _ (Nat.le_refl _)) (Nat.le_refl _))
          rw [hrc] at this ⊢
          exact this
        · rw [hrc]; exact World.putObj_heap_same (lt_of_heap hl3)
        · exact (World.putObj_heap_other (by omega)).trans hd3
        · have := ((Kpt.of_below (T := T) (b2 _ hn₁) (Nat.le_refl _)).trans hb3).trans (Kpt.of_below (b4 _ hn₁) (Nat.le_refl _))
          rw [hrc] at this ⊢
          exact this
      | ret => exact fin .ret W3 hp.1 hp.2
      | exit id => exact fin (.exit id) W3 hp.1 hp.2
      | goto t => exact hp.elim
      | panic ch => exact hp.elim
      | outgrown => exact hp.elim
    · rintro e W2 ⟨⟨v, rfl⟩, (⟨xs, hS, hi, hl, hk⟩ | ⟨xs, hS, c, hi, hl, hk⟩)⟩
      · refine ⟨none, _, by have := run_endLoop (P := P) hl (by rw [hrc]; simp); rw [hrc] at this; exact this, hdone _ xs _ (Nat.le_refl _) hS ?_ ((World.putObj_heap_other (by omega)).trans hk)⟩
        exact hI _ _ _ hi (Kpt.of_below (turn W2 _ _ hl rfl rfl _ (Nat.le_refl _)) (Nat.le_refl _))
      · refine ⟨some c, _, by have := run_endLoop (P := P) hl (by rw [hrc]; simp); rw [hrc] at this; exact this, hstop _ c xs _ (Nat.le_refl _) hS ?_ ((World.putObj_heap_other (by omega)).trans hk)⟩
        exact hIx _ _ _ _ hi (Kpt.of_below (turn W2 _ _ hl rfl rfl _ (Nat.le_refl _)) (Nat.le_refl _))
end
section
open Go.RowKit

theorem range_bound {α : Type} {P : Program} {n : Nat} {g : Operand} {ps : Array Tmp} {assign body : Code} {Q : Exit → Act → World → Prop} {a : Act} {w : World} {gf : Nat} {lb bd : Array Value}
    (hg : a.eval g = .func (.func gf) bd lb) (eg : ∀ args w, (callFunc gf args).run P w = .ok (.enter gf args) w) {encs : α → Array Value} {S Sp : List α → Prop} {Ex : List α → α → World → Prop} {Bd : List α → Prop} {n₁ : Nat} (hn₁ : n₁ ≤ w.heap.size) {Si T : List Nat} (hSi : ∀ x ∈ Si, x < w.heap.size)
    (hseq : ∀ (l : Nat) (J Jx : List α → World → Prop) (W : World), Below w.heap.size w W → (∀ pre A B, J pre A → Chg Si A B → J pre B) → (∀ pre A B, Jx pre A → Chg Si A B → Jx pre B) → (∀ pre A, J pre A → Bd pre) →
      (∀ pre x W1, J pre W1 → Ex pre x W1 → YieldAt Fence.wide (n - 1 - 1) P l (encs x) W1 fun e W' => (e = .returned (.bool true) ∧ J (pre ++ [x]) W' ∧ Kpt n₁ T W1 W') ∨ (e = .returned (.bool false) ∧ Jx (pre ++ [x]) W')) →
      J [] W → CallsIn Fence.wide (n - 1) P gf ((bd ++ #[.func (.yield l) #[] #[]]) ++ lb) W fun e W' => (∃ v, e = .returned v) ∧ ((∃ xs, S xs ∧ J xs W') ∨ ∃ xs, Sp xs ∧ Jx xs W'))
    (hps : ∀ x, (encs x).size = ps.size) (I : List α → World → Prop) (Ix : Code → List α → World → Prop) (hI : ∀ pre A B, I pre A → Chg Si A B → I pre B) (hIx : ∀ c pre A B, Ix c pre A → Chg Si A B → Ix c pre B)
    (hIl : ∀ pre W l o o', W.heap[l]? = some o → o.isCells = false → w.heap.size ≤ l → I pre W → I pre (W.putObj l o')) (hIxl : ∀ c pre W l o o', W.heap[l]? = some o → o.isCells = false → w.heap.size ≤ l → Ix c pre W → Ix c pre (W.putObj l o')) (hBd : ∀ pre A, I pre A → Bd pre) (h0 : I [] w)
    (hEx : ∀ pre x W l o o', W.heap[l]? = some o → o.isCells = false → Ex pre x W → Ex pre x (W.putObj l o')) (a₁ : α → Act)
    (hassign : ∀ (l : Nat) (x : α) (W : World) (K : Act → World → Prop), K (a₁ x) W →
      assign.wpIn (Fence.wide.inRound l) (n - 1 - 1) P (Exit.then K (fun _ _ _ => False)) { tmps := (ps.zip (encs x)).foldl (fun t (p, v) => t.setIfInBounds p v) a.tmps, defers := [] } W)
    (hbody : ∀ (l : Nat) (pre : List α) (x : α) (W : World), I pre W → Ex pre x W → body.wpIn (Fence.wide.inRound l) (n - 1 - 1) P (brkPost I Ix n₁ T (pre ++ [x]) W) (a₁ x) W)
    (hdone : ∀ (D : Nat) (xs : List α) (W : World), w.heap.size ≤ D → S xs → I xs W → W.heap[D]? = some (.deferred (some [])) → Q .normal { a with defers := { target := .collected D, args := #[] } :: a.defers } W)
    (hstop : ∀ (D : Nat) (c : Code) (xs : List α) (W : World), w.heap.size ≤ D → Sp xs → Ix c xs W → W.heap[D]? = some (.deferred (some [])) → c.wpIn Fence.wide n P Q { a with defers := { target := .collected D, args := #[] } :: a.defers } W) :
    (Code.rangeFunc g ps assign body).wpIn Fence.wide n P Q a w := by
  refine wpIn_rangeFunc ?_
  intro fn hfn
  obtain ⟨rc, hrc⟩ : ∃ rc : LoopState → Option Code → Loop, rc = fun st pe => { state := st, pending := pe, fn, tmps := a.tmps, params := ps, assign, body, defers := w.heap.size } := ⟨_, rfl⟩
  obtain ⟨V, hV, hcV, hD0, hL0⟩ := news2 w (.deferred (some [])) (.loop (rc .ready none))
  have hsV : V.heap.size = w.heap.size + 2 := by rw [hV]; simp
  have bV : Below w.heap.size w V := by rw [hV]; exact ((Below.refl _ w).alloc (Nat.le_refl _) _).alloc (by simp) _
  refine ⟨w.heap.size + 1, [{ target := .collected w.heap.size, args := #[] }], V, { target := .fn (.func gf) lb, args := bd ++ #[.func (.yield (w.heap.size + 1)) #[] #[]] }, V, gf,
    (bd ++ #[.func (.yield (w.heap.size + 1)) #[] #[]]) ++ lb, V, ?_, ?_, fun _ _ => trivial, ?_, fun h => by simp [Fence.wide] at h, ?_⟩
  · rw [hV, hrc]; exact run_enterLoop_outer _ _ _ _ _
  · simp only [resolve, hg]
    simp [go_sem]
  · simp [invoke, go_sem, eg]
  · -- the record and the row of deferred calls, turned or not, lie at or behind w's end
    have turn : ∀ (W : World) (o : Obj) (o' : Obj), W.heap[w.heap.size + 1]? = some o → o.isCells = false → o.isWalk = false → ∀ m, m ≤ w.heap.size → Below m W (W.putObj (w.heap.size + 1) o') :=
      fun W o o' h hc hw m hm => belowK_b (w := w) hm W _ o o' (by omega) h hc hw
    have far : ∀ k, w.heap.size ≤ k → k ∉ Si := fun k hk h => by have := hSi k h; omega
    refine (hseq (w.heap.size + 1) (fun pre W => I pre W ∧ W.heap[w.heap.size + 1]? = some (.loop (rc .ready none)) ∧ W.heap[w.heap.size]? = some (.deferred (some [])))
      (fun pre W => ∃ c, Ix c pre W ∧ W.heap[w.heap.size + 1]? = some (.loop (rc .done (some c))) ∧ W.heap[w.heap.size]? = some (.deferred (some []))) V bV ?_ ?_ (fun pre A h => hBd _ _ h.1) ?_
      ⟨hI _ _ _ h0 (Chg.ofBelow bV (Nat.le_refl _) _), hL0, hD0⟩).mono ?_
    · rintro pre A B ⟨hi, hl, hk⟩ hb
      exact ⟨hI _ _ _ hi hb, hb.at_ hl (far _ (by omega)), hb.at_ hk (far _ (Nat.le_refl _))⟩
    · rintro pre A B ⟨c, hi, hl, hk⟩ hb
      exact ⟨c, hIx _ _ _ _ hi hb, hb.at_ hl (far _ (by omega)), hb.at_ hk (far _ (Nat.le_refl _))⟩
    · rintro pre x W ⟨hi, hl, hk⟩ hx
      have hlt := lt_of_heap hl
      have hy := run_yield (P := P) (args := encs x) hl (by rw [hrc]; exact hps x)
      rw [hrc] at hy
      refine ⟨fn, _, assign, body, hy, roundIn_of_wpIn hfn (hassign _ x W _ ⟨_, run_beginRound hl (by rw [hrc]), ?_⟩)⟩
      have hl2 : (W.putObj (w.heap.size + 1) (.loop { rc .ready none with state := .busy })).heap[w.heap.size + 1]? = some (.loop { rc .ready none with state := .busy }) := World.putObj_heap_same hlt
      have hk2 : (W.putObj (w.heap.size + 1) (.loop { rc .ready none with state := .busy })).heap[w.heap.size]? = some (.deferred (some [])) := (World.putObj_heap_other (by omega)).trans hk
      have b2 := turn W _ (.loop { rc .ready none with state := .busy }) hl rfl rfl
      refine wpIn_mono (hbody _ pre x _ (hIl _ _ _ _ _ hl rfl (by omega) hi) (hEx pre x W _ _ _ hl rfl hx)) ?_
      have fin : ∀ (c : Code) (W3 : World), KeepsOthers (W.putObj (w.heap.size + 1) (.loop { rc .ready none with state := .busy })) W3 → Ix c (pre ++ [x]) W3 →
          ∃ v w', (Instr.endRound (w.heap.size + 1) (some c)).run P W3 = .ok v w' ∧ ((Ending.returned v = .returned (.bool true) ∧ (I (pre ++ [x]) w' ∧ w'.heap[w.heap.size + 1]? = some (.loop (rc .ready none)) ∧ w'.heap[w.heap.size]? = some (.deferred (some []))) ∧ Kpt n₁ T W w') ∨
            (Ending.returned v = .returned (.bool false) ∧ ∃ c, Ix c (pre ++ [x]) w' ∧ w'.heap[w.heap.size + 1]? = some (.loop (rc .done (some c))) ∧ w'.heap[w.heap.size]? = some (.deferred (some [])))) := by
        intro c W3 hk3 hi3
        have hl3 := hk3.same _ _ hl2 rfl
        have hd3 := hk3.same _ _ hk2 rfl
        have hr := run_endRound (P := P) (some c) hl3
        have b4 := turn W3 _ (.loop (rc .done (some c))) hl3 rfl rfl
        refine ⟨_, _, hr, .inr ⟨rfl, c, ?_, ?_, ?_⟩⟩
        · have := hIxl _ _ _ _ _ (.loop (rc .done (some c))) hl3 rfl (by omega) hi3
          rw [hrc] at this ⊢
          exact this
        · rw [hrc]; exact World.putObj_heap_same (lt_of_heap hl3)
        · exact (World.putObj_heap_other (by omega)).trans hd3
      rintro e a3 W3 hp
      cases e with
      | normal =>
        obtain ⟨hk3, hb3, hi3⟩ := hp
        have hl3 := hk3.same _ _ hl2 rfl
        have hd3 := hk3.same _ _ hk2 rfl
        have hr := run_endRound (P := P) none hl3
        have b4 := turn W3 _ (.loop (rc .ready none)) hl3 rfl rfl
        refine ⟨_, _, hr, .inl ⟨rfl, ⟨?_, ?_, ?_⟩, ?_⟩⟩
        · have := hIl _ _ _ _ (.loop (rc .ready none)) hl3 rfl (by omega) hi3
          rw [hrc] at this ⊢
          exact this
        · rw [hrc]; exact World.putObj_heap_same (lt_of_heap hl3)
        · exact (World.putObj_heap_other (by omega)).trans hd3
        · have := ((Kpt.of_below (T := T) (b2 _ hn₁) (Nat.le_refl _)).trans hb3).trans (Kpt.of_below (b4 _ hn₁) (Nat.le_refl _))
          rw [hrc] at this ⊢
          exact this
      | ret => exact fin .ret W3 hp.1 hp.2
      | exit id => exact fin (.exit id) W3 hp.1 hp.2
      | goto t => exact hp.elim
      | panic ch => exact hp.elim
      | outgrown => exact hp.elim
    · rintro e W2 ⟨⟨v, rfl⟩, (⟨xs, hS, hi, hl, hk⟩ | ⟨xs, hS, c, hi, hl, hk⟩)⟩
      · refine ⟨none, _, by have := run_endLoop (P := P) hl (by rw [hrc]; simp); rw [hrc] at this; exact this, hdone _ xs _ (Nat.le_refl _) hS ?_ ((World.putObj_heap_other (by omega)).trans hk)⟩
        exact hIl _ _ _ _ _ hl rfl (by omega) hi
      · refine ⟨some c, _, by have := run_endLoop (P := P) hl (by rw [hrc]; simp); rw [hrc] at this; exact this, hstop _ c xs _ (Nat.le_refl _) hS ?_ ((World.putObj_heap_other (by omega)).trans hk)⟩
        exact hIxl _ _ _ _ _ _ hl rfl (by omega) hi
end
section
open Go.RowKit

theorem range_boundx {α : Type} {P : Program} {n : Nat} {g : Operand} {ps : Array Tmp} {assign body : Code} {Q : Exit → Act → World → Prop} {a : Act} {w : World} {gf : Nat} {lb bd : Array Value}
    (hg : a.eval g = .func (.func gf) bd lb) (eg : ∀ args w, (callFunc gf args).run P w = .ok (.enter gf args) w) {encs : α → Array Value} {S Sp : List α → Prop} {Ex : List α → α → World → Prop} {Bd : List α → Prop} {n₁ : Nat} (hn₁ : n₁ ≤ w.heap.size) {Si T : List Nat} (hSi : ∀ x ∈ Si, x < w.heap.size)
    (hseq : ∀ (l : Nat) (J Jx : List α → World → Prop) (W : World), Below w.heap.size w W → (∀ pre A B, J pre A → Chg Si A B → J pre B) → (∀ pre A B, Jx pre A → Chg Si A B → Jx pre B) → (∀ pre A, J pre A → Bd pre) →
      (∀ pre x W1, J pre W1 → Ex pre x W1 → YieldAt Fence.wide (n - 1 - 1) P l (encs x) W1 fun e W' => (e = .returned (.bool true) ∧ J (pre ++ [x]) W' ∧ Kpt n₁ T W1 W') ∨ (e = .returned (.bool false) ∧ Jx (pre ++ [x]) W')) →
      J [] W → CallsIn Fence.wide (n - 1) P gf ((bd ++ #[.func (.yield l) #[] #[]]) ++ lb) W fun e W' => (∃ v, e = .returned v) ∧ ((∃ xs, S xs ∧ J xs W') ∨ ∃ xs, Sp xs ∧ Jx xs W'))
    (hps : ∀ x, (encs x).size = ps.size) (I : List α → World → Prop) (Ix : Code → List α → World → Prop) (hI : ∀ pre A B, I pre A → Chg Si A B → I pre B) (hIx : ∀ c pre A B, Ix c pre A → Chg Si A B → Ix c pre B)
    (hIl : ∀ pre W l o o', W.heap[l]? = some o → o.isCells = false → w.heap.size ≤ l → I pre W → I pre (W.putObj l o')) (hIxl : ∀ c pre W l o o', W.heap[l]? = some o → o.isCells = false → w.heap.size ≤ l → Ix c pre W → Ix c pre (W.putObj l o')) (hBd : ∀ pre A, I pre A → Bd pre) (h0 : I [] w)
    (hEx : ∀ pre x W l o o', W.heap[l]? = some o → o.isCells = false → Ex pre x W → Ex pre x (W.putObj l o')) (hExA : ∀ pre x W o, Ex pre x W → Ex pre x (W.alloc o)) (ob : α → Obj) (hob : ∀ x, (ob x).isCells = true) (a₁ : α → Nat → Act)
    (hassign : ∀ (l : Nat) (x : α) (W : World) (K : Act → World → Prop), K (a₁ x W.heap.size) (W.alloc (ob x)) →
      assign.wpIn (Fence.wide.inRound l) (n - 1 - 1) P (Exit.then K (fun _ _ _ => False)) { tmps := (ps.zip (encs x)).foldl (fun t (p, v) => t.setIfInBounds p v) a.tmps, defers := [] } W)
    (hbody : ∀ (l nb : Nat) (pre : List α) (x : α) (W : World), n₁ ≤ nb → W.heap[nb]? = some (ob x) → I pre W → Ex pre x W → body.wpIn (Fence.wide.inRound l) (n - 1 - 1) P (brkPost I Ix n₁ T (pre ++ [x]) W) (a₁ x nb) W)
    (hdone : ∀ (D : Nat) (xs : List α) (W : World), w.heap.size ≤ D → S xs → I xs W → W.heap[D]? = some (.deferred (some [])) → Q .normal { a with defers := { target := .collected D, args := #[] } :: a.defers } W)
    (hstop : ∀ (D : Nat) (c : Code) (xs : List α) (W : World), w.heap.size ≤ D → Sp xs → Ix c xs W → W.heap[D]? = some (.deferred (some [])) → c.wpIn Fence.wide n P Q { a with defers := { target := .collected D, args := #[] } :: a.defers } W) :
    (Code.rangeFunc g ps assign body).wpIn Fence.wide n P Q a w := by
  refine wpIn_rangeFunc ?_
  intro fn hfn
  obtain ⟨rc, hrc⟩ : ∃ rc : LoopState → Option Code → Loop, rc = fun st pe => { state := st, pending := pe, fn, tmps := a.tmps, params := ps, assign, body, defers := w.heap.size } := ⟨_, rfl⟩
  obtain ⟨V, hV, hcV, hD0, hL0⟩ := news2 w (.deferred (some [])) (.loop (rc .ready none))
  have hsV : V.heap.size = w.heap.size + 2 := by rw [hV]; simp
  have bV : Below w.heap.size w V := by rw [hV]; exact ((Below.refl _ w).alloc (Nat.le_refl _) _).alloc (by simp) _
  refine ⟨w.heap.size + 1, [{ target := .collected w.heap.size, args := #[] }], V, { target := .fn (.func gf) lb, args := bd ++ #[.func (.yield (w.heap.size + 1)) #[] #[]] }, V, gf,
    (bd ++ #[.func (.yield (w.heap.size + 1)) #[] #[]]) ++ lb, V, ?_, ?_, fun _ _ => trivial, ?_, fun h => by simp [Fence.wide] at h, ?_⟩
  · rw [hV, hrc]; exact run_enterLoop_outer _ _ _ _ _
  · simp only [resolve, hg]
    simp [go_sem]
  · simp [invoke, go_sem, eg]
  · -- the record and the row of deferred calls, turned or not, lie at or behind w's end
    have turn : ∀ (W : World) (o : Obj) (o' : Obj), W.heap[w.heap.size + 1]? = some o → o.isCells = false → o.isWalk = false → ∀ m, m ≤ w.heap.size → Below m W (W.putObj (w.heap.size + 1) o') :=
      fun W o o' h hc hw m hm => belowK_b (w := w) hm W _ o o' (by omega) h hc hw
    have far : ∀ k, w.heap.size ≤ k → k ∉ Si := fun k hk h => by have := hSi k h; omega
    refine (hseq (w.heap.size + 1) (fun pre W => I pre W ∧ W.heap[w.heap.size + 1]? = some (.loop (rc .ready none)) ∧ W.heap[w.heap.size]? = some (.deferred (some [])))
      (fun pre W => ∃ c, Ix c pre W ∧ W.heap[w.heap.size + 1]? = some (.loop (rc .done (some c))) ∧ W.heap[w.heap.size]? = some (.deferred (some []))) V bV ?_ ?_ (fun pre A h => hBd _ _ h.1) ?_
      ⟨hI _ _ _ h0 (Chg.ofBelow bV (Nat.le_refl _) _), hL0, hD0⟩).mono ?_
    · rintro pre A B ⟨hi, hl, hk⟩ hb
      exact ⟨hI _ _ _ hi hb, hb.at_ hl (far _ (by omega)), hb.at_ hk (far _ (Nat.le_refl _))⟩
    · rintro pre A B ⟨c, hi, hl, hk⟩ hb
      exact ⟨c, hIx _ _ _ _ hi hb, hb.at_ hl (far _ (by omega)), hb.at_ hk (far _ (Nat.le_refl _))⟩
    · rintro pre x W0 ⟨hi0, hl0, hk0⟩ hx0
      have hy := run_yield (P := P) (args := encs x) hl0 (by rw [hrc]; exact hps x)
      rw [hrc] at hy
      have hz0 : n₁ ≤ W0.heap.size := by have := lt_of_heap hl0; omega
      obtain ⟨W, hWA, cA, bA⟩ := news1 W0 (ob x)
      have hi : I pre W := hI _ _ _ hi0 (cA.mono (by simp))
      have hl := cA.at_ hl0 (by simp)
      have hk := cA.at_ hk0 (by simp)
      have hx : Ex pre x W := by rw [hWA]; exact hExA _ _ _ _ hx0
      have hlt := lt_of_heap hl
      refine ⟨fn, _, assign, body, hy, roundIn_of_wpIn hfn (hassign _ x W0 _ ?_)⟩
      rw [← hWA]
      refine ⟨_, run_beginRound hl (by rw [hrc]), ?_⟩
      have hl2 : (W.putObj (w.heap.size + 1) (.loop { rc .ready none with state := .busy })).heap[w.heap.size + 1]? = some (.loop { rc .ready none with state := .busy }) := World.putObj_heap_same hlt
      have hk2 : (W.putObj (w.heap.size + 1) (.loop { rc .ready none with state := .busy })).heap[w.heap.size]? = some (.deferred (some [])) := (World.putObj_heap_other (by omega)).trans hk
      have b2 := turn W _ (.loop { rc .ready none with state := .busy }) hl rfl rfl
      refine wpIn_mono (hbody _ W0.heap.size pre x _ hz0 ((World.putObj_heap_other (fun e => by (first | rw [e] at bA | rw [← e] at bA); rw [hl] at bA; have h2 := hob x; rw [← Option.some.inj bA] at h2; exact absurd h2 (by simp [Obj.isCells]))).trans bA) (hIl _ _ _ _ _ hl rfl (by omega) hi) (hEx pre x W _ _ _ hl rfl hx)) ?_
      have fin : ∀ (c : Code) (W3 : World), KeepsOthers (W.putObj (w.heap.size + 1) (.loop { rc .ready none with state := .busy })) W3 → Ix c (pre ++ [x]) W3 →
          ∃ v w', (Instr.endRound (w.heap.size + 1) (some c)).run P W3 = .ok v w' ∧ ((Ending.returned v = .returned (.bool true) ∧ (I (pre ++ [x]) w' ∧ w'.heap[w.heap.size + 1]? = some (.loop (rc .ready none)) ∧ w'.heap[w.heap.size]? = some (.deferred (some []))) ∧ Kpt n₁ T W0 w') ∨
            (Ending.returned v = .returned (.bool false) ∧ ∃ c, Ix c (pre ++ [x]) w' ∧ w'.heap[w.heap.size + 1]? = some (.loop (rc .done (some c))) ∧ w'.heap[w.heap.size]? = some (.deferred (some [])))) := by
        intro c W3 hk3 hi3
        have hl3 := hk3.same _ _ hl2 rfl
        have hd3 := hk3.same _ _ hk2 rfl
        have hr := run_endRound (P := P) (some c) hl3
        have b4 := turn W3 _ (.loop (rc .done (some c))) hl3 rfl rfl
        refine ⟨_, _, hr, .inr ⟨rfl, c, ?_, ?_, ?_⟩⟩
        · have := hIxl _ _ _ _ _ (.loop (rc .done (some c))) hl3 rfl (by omega) hi3
          rw [hrc] at this ⊢
          exact this
        · rw [hrc]; exact World.putObj_heap_same (lt_of_heap hl3)
        · exact (World.putObj_heap_other (by omega)).trans hd3
      rintro e a3 W3 hp
      cases e with
      | normal =>
        obtain ⟨hk3, hb3, hi3⟩ := hp
        have hl3 := hk3.same _ _ hl2 rfl
        have hd3 := hk3.same _ _ hk2 rfl
        have hr := run_endRound (P := P) none hl3
        have b4 := turn W3 _ (.loop (rc .ready none)) hl3 rfl rfl
        refine ⟨_, _, hr, .inl ⟨rfl, ⟨?_, ?_, ?_⟩, ?_⟩⟩
        · have := hIl _ _ _ _ (.loop (rc .ready none)) hl3 rfl (by omega) hi3
          rw [hrc] at this ⊢
          exact this
        · rw [hrc]; exact World.putObj_heap_same (lt_of_heap hl3)
        · exact (World.putObj_heap_other (by omega)).trans hd3
        · have := (Kpt.of_chg (T := T) (cA.mono (by simp)) hz0).trans (((Kpt.of_below (T := T) (b2 _ hn₁) (Nat.le_refl _)).trans hb3).trans (Kpt.of_below (b4 _ hn₁) (Nat.le_refl _)))
          rw [hrc] at this ⊢
          exact this
      | ret => exact fin .ret W3 hp.1 hp.2
      | exit id => exact fin (.exit id) W3 hp.1 hp.2
      | goto t => exact hp.elim
      | panic ch => exact hp.elim
      | outgrown => exact hp.elim
    · rintro e W2 ⟨⟨v, rfl⟩, (⟨xs, hS, hi, hl, hk⟩ | ⟨xs, hS, c, hi, hl, hk⟩)⟩
      · refine ⟨none, _, by have := run_endLoop (P := P) hl (by rw [hrc]; simp); rw [hrc] at this; exact this, hdone _ xs _ (Nat.le_refl _) hS ?_ ((World.putObj_heap_other (by omega)).trans hk)⟩
        exact hIl _ _ _ _ _ hl rfl (by omega) hi
      · refine ⟨some c, _, by have := run_endLoop (P := P) hl (by rw [hrc]; simp); rw [hrc] at this; exact this, hstop _ c xs _ (Nat.le_refl _) hS ?_ ((World.putObj_heap_other (by omega)).trans hk)⟩
        exact hIxl _ _ _ _ _ _ hl rfl (by omega) hi
end
section
open Go.RowKit

theorem range_own {α : Type} {P : Program} {n : Nat} {g : Operand} {ps : Array Tmp} {assign body : Code} {Q : Exit → Act → World → Prop} {a : Act} {w : World} {gf : Nat} {lb : Array Value}
    (hg : a.eval g = .func (.func gf) #[] lb) (eg : ∀ args w, (callFunc gf args).run P w = .ok (.enter gf args) w) {encs : α → Array Value} {S Sp : List α → Prop} {Ex : List α → α → World → Prop} {Bd : List α → Prop} {n₁ : Nat} (hn₁ : n₁ ≤ w.heap.size) {Si T : List Nat} (hSi : ∀ x ∈ Si, x < w.heap.size)
    (hseq : ∀ (l : Nat) (J Jx : List α → World → Prop) (W : World), Below w.heap.size w W → (∀ pre A B, J pre A → Chg Si A B → J pre B) → (∀ pre A B, Jx pre A → Chg Si A B → Jx pre B) → (∀ pre A, J pre A → Bd pre) →
      (∀ pre x W1, J pre W1 → Ex pre x W1 → YieldAt Fence.wide (n - 1 - 1) P l (encs x) W1 fun e W' => (e = .returned (.bool true) ∧ J (pre ++ [x]) W' ∧ Kpt n₁ T W1 W') ∨ (e = .returned (.bool false) ∧ Jx (pre ++ [x]) W')) →
      J [] W → CallsIn Fence.wide (n - 1) P gf (#[.func (.yield l) #[] #[]] ++ lb) W fun e W' => (∃ v, e = .returned v) ∧ ((∃ xs, S xs ∧ J xs W') ∨ ∃ xs, Sp xs ∧ Jx xs W'))
    (hps : ∀ x, (encs x).size = ps.size) (I : List α → World → Prop) (Ix : Code → List α → World → Prop) (hI : ∀ pre A B, I pre A → Chg Si A B → I pre B) (hIx : ∀ c pre A B, Ix c pre A → Chg Si A B → Ix c pre B)
    (hIl : ∀ pre W l o o', W.heap[l]? = some o → o.isCells = false → w.heap.size ≤ l → I pre W → I pre (W.putObj l o')) (hIxl : ∀ c pre W l o o', W.heap[l]? = some o → o.isCells = false → w.heap.size ≤ l → Ix c pre W → Ix c pre (W.putObj l o')) (hBd : ∀ pre A, I pre A → Bd pre) (h0 : I [] w)
    (hEx : ∀ pre x W l o o', W.heap[l]? = some o → o.isCells = false → Ex pre x W → Ex pre x (W.putObj l o')) (a₁ : α → Act)
    (hassign : ∀ (l : Nat) (x : α) (W : World) (K : Act → World → Prop), K (a₁ x) W →
      assign.wpIn (Fence.wide.inRound l) (n - 1 - 1) P (Exit.then K (fun _ _ _ => False)) { tmps := (ps.zip (encs x)).foldl (fun t (p, v) => t.setIfInBounds p v) a.tmps, defers := [] } W)
    (hbody : ∀ (l : Nat) (pre : List α) (x : α) (W : World), I pre W → Ex pre x W → body.wpIn (Fence.wide.inRound l) (n - 1 - 1) P (brkPost I Ix n₁ T (pre ++ [x]) W) (a₁ x) W)
    (hdone : ∀ (D : Nat) (xs : List α) (W : World), w.heap.size ≤ D → S xs → I xs W → W.heap[D]? = some (.deferred (some [])) → Q .normal { a with defers := { target := .collected D, args := #[] } :: a.defers } W)
    (hstop : ∀ (D : Nat) (c : Code) (xs : List α) (W : World), w.heap.size ≤ D → Sp xs → Ix c xs W → W.heap[D]? = some (.deferred (some [])) → c.wpIn Fence.wide n P Q { a with defers := { target := .collected D, args := #[] } :: a.defers } W) :
    (Code.rangeFunc g ps assign body).wpIn Fence.wide n P Q a w := by
  refine wpIn_rangeFunc ?_
  intro fn hfn
  obtain ⟨rc, hrc⟩ : ∃ rc : LoopState → Option Code → Loop, rc = fun st pe => { state := st, pending := pe, fn, tmps := a.tmps, params := ps, assign, body, defers := w.heap.size } := ⟨_, rfl⟩
  obtain ⟨V, hV, hcV, hD0, hL0⟩ := news2 w (.deferred (some [])) (.loop (rc .ready none))
  have hsV : V.heap.size = w.heap.size + 2 := by rw [hV]; simp
  have bV : Below w.heap.size w V := by rw [hV]; exact ((Below.refl _ w).alloc (Nat.le_refl _) _).alloc (by simp) _
  refine ⟨w.heap.size + 1, [{ target := .collected w.heap.size, args := #[] }], V, { target := .fn (.func gf) lb, args := #[.func (.yield (w.heap.size + 1)) #[] #[]] }, V, gf,
    #[.func (.yield (w.heap.size + 1)) #[] #[]] ++ lb, V, ?_, ?_, fun _ _ => trivial, ?_, fun h => by simp [Fence.wide] at h, ?_⟩
  · rw [hV, hrc]; exact run_enterLoop_outer _ _ _ _ _
  · simp only [resolve, hg]
    simp [go_sem]
  · simp [invoke, go_sem, eg]
  · -- the record and the row of deferred calls, turned or not, lie at or behind w's end
    have turn : ∀ (W : World) (o : Obj) (o' : Obj), W.heap[w.heap.size + 1]? = some o → o.isCells = false → o.isWalk = false → ∀ m, m ≤ w.heap.size → Below m W (W.putObj (w.heap.size + 1) o') :=
      fun W o o' h hc hw m hm => belowK_b (w := w) hm W _ o o' (by omega) h hc hw
    have far : ∀ k, w.heap.size ≤ k → k ∉ Si := fun k hk h => by have := hSi k h; omega
    refine (hseq (w.heap.size + 1) (fun pre W => I pre W ∧ W.heap[w.heap.size + 1]? = some (.loop (rc .ready none)) ∧ W.heap[w.heap.size]? = some (.deferred (some [])))
      (fun pre W => ∃ c, Ix c pre W ∧ W.heap[w.heap.size + 1]? = some (.loop (rc .done (some c))) ∧ W.heap[w.heap.size]? = some (.deferred (some []))) V bV ?_ ?_ (fun pre A h => hBd _ _ h.1) ?_
      ⟨hI _ _ _ h0 (Chg.ofBelow bV (Nat.le_refl _) _), hL0, hD0⟩).mono ?_
    · rintro pre A B ⟨hi, hl, hk⟩ hb
      exact ⟨hI _ _ _ hi hb, hb.at_ hl (far _ (by omega)), hb.at_ hk (far _ (Nat.le_refl _))⟩
    · rintro pre A B ⟨c, hi, hl, hk⟩ hb
      exact ⟨c, hIx _ _ _ _ hi hb, hb.at_ hl (far _ (by omega)), hb.at_ hk (far _ (Nat.le_refl _))⟩
    · rintro pre x W ⟨hi, hl, hk⟩ hx
      have hlt := lt_of_heap hl
      have hy := run_yield (P := P) (args := encs x) hl (by rw [hrc]; exact hps x)
      rw [hrc] at hy
      refine ⟨fn, _, assign, body, hy, roundIn_of_wpIn hfn (hassign _ x W _ ⟨_, run_beginRound hl (by rw [hrc]), ?_⟩)⟩
      have hl2 : (W.putObj (w.heap.size + 1) (.loop { rc .ready none with state := .busy })).heap[w.heap.size + 1]? = some (.loop { rc .ready none with state := .busy }) := World.putObj_heap_same hlt
      have hk2 : (W.putObj (w.heap.size + 1) (.loop { rc .ready none with state := .busy })).heap[w.heap.size]? = some (.deferred (some [])) := (World.putObj_heap_other (by omega)).trans hk
      have b2 := turn W _ (.loop { rc .ready none with state := .busy }) hl rfl rfl
      refine wpIn_mono (hbody _ pre x _ (hIl _ _ _ _ _ hl rfl (by omega) hi) (hEx pre x W _ _ _ hl rfl hx)) ?_
      have fin : ∀ (c : Code) (W3 : World), KeepsOthers (W.putObj (w.heap.size + 1) (.loop { rc .ready none with state := .busy })) W3 → Ix c (pre ++ [x]) W3 →
          ∃ v w', (Instr.endRound (w.heap.size + 1) (some c)).run P W3 = .ok v w' ∧ ((Ending.returned v = .returned (.bool true) ∧ (I (pre ++ [x]) w' ∧ w'.heap[w.heap.size + 1]? = some (.loop (rc .ready none)) ∧ w'.heap[w.heap.size]? = some (.deferred (some []))) ∧ Kpt n₁ T W w') ∨
            (Ending.returned v = .returned (.bool false) ∧ ∃ c, Ix c (pre ++ [x]) w' ∧ w'.heap[w.heap.size + 1]? = some (.loop (rc .done (some c))) ∧ w'.heap[w.heap.size]? = some (.deferred (some [])))) := by
        intro c W3 hk3 hi3
        have hl3 := hk3.same _ _ hl2 rfl
        have hd3 := hk3.same _ _ hk2 rfl
        have hr := run_endRound (P := P) (some c) hl3
        have b4 := turn W3 _ (.loop (rc .done (some c))) hl3 rfl rfl
        refine ⟨_, _, hr, .inr ⟨rfl, c, ?_, ?_, ?_⟩⟩
        · have := hIxl _ _ _ _ _ (.loop (rc .done (some c))) hl3 rfl (by omega) hi3
          rw [hrc] at this ⊢
          exact this
        · rw [hrc]; exact World.putObj_heap_same (lt_of_heap hl3)
        · exact (World.putObj_heap_other (by omega)).trans hd3
      rintro e a3 W3 hp
      cases e with
      | normal =>
        obtain ⟨hk3, hb3, hi3⟩ := hp
        have hl3 := hk3.same _ _ hl2 rfl
        have hd3 := hk3.same _ _ hk2 rfl
        have hr := run_endRound (P := P) none hl3
        have b4 := turn W3 _ (.loop (rc .ready none)) hl3 rfl rfl
        refine ⟨_, _, hr, .inl ⟨rfl, ⟨?_, ?_, ?_⟩, ?_⟩⟩
        · have := hIl _ _ _ _ (.loop (rc .ready none)) hl3 rfl (by omega) hi3
          rw [hrc] at this ⊢
          exact this
        · rw [hrc]; exact World.putObj_heap_same (lt_of_heap hl3)
        · exact (World.putObj_heap_other (by omega)).trans hd3
        · have := ((Kpt.of_below (T := T) (b2 _ hn₁) (Nat.le_refl _)).trans hb3).trans (Kpt.of_below (b4 _ hn₁) (Nat.le_refl _))
          rw [hrc] at this ⊢
          exact this
      | ret => exact fin .ret W3 hp.1 hp.2
      | exit id => exact fin (.exit id) W3 hp.1 hp.2
      | goto t => exact hp.elim
      | panic ch => exact hp.elim
      | outgrown => exact hp.elim
    · rintro e W2 ⟨⟨v, rfl⟩, (⟨xs, hS, hi, hl, hk⟩ | ⟨xs, hS, c, hi, hl, hk⟩)⟩
      · refine ⟨none, _, by have := run_endLoop (P := P) hl (by rw [hrc]; simp); rw [hrc] at this; exact this, hdone _ xs _ (Nat.le_refl _) hS ?_ ((World.putObj_heap_other (by omega)).trans hk)⟩
        exact hIl _ _ _ _ _ hl rfl (by omega) hi
      · refine ⟨some c, _, by have := run_endLoop (P := P) hl (by rw [hrc]; simp); rw [hrc] at this; exact this, hstop _ c xs _ (Nat.le_refl _) hS ?_ ((World.putObj_heap_other (by omega)).trans hk)⟩
        exact hIxl _ _ _ _ _ _ hl rfl (by omega) hi
end
section
open Go.RowKit
set_option linter.unusedSimpArgs false
set_option linter.unusedVariables false
attribute [local go_sem] Oper.semAt_some
theorem toIn_scope {P : Program} {n : Nat} {c : Code} {Q : Exit → Act → World → Prop} {a : Act} {w : World} (h : c.wpIn Fence.wide n P (Exit.noGoto Q) a w) : (Code.scope c).wpIn Fence.wide n P Q a w := wpIn_wide.2 (wp_scope_straight (wpIn_wide.1 h))
theorem wpListIn_appK {α : Type} {R : RowTy α} {F : Fence} {nF : Nat} {ops : Array Oper} {rest : List Oper} {o : Oper} {a : Act} {w : World} {Q : Exit → Act → World → Prop} (hgd : o.guard = none) (s x : Operand)
    (ho : o.op = .call { callee := .builtin .append, args := #[s, x], argTypes := #[R.TS, R.TS] })
    {A : Option Addr} {c n : Nat} {xs : List α} (hs : a.eval s = .slice A n c) (hown : OwnK R w A c xs) (hn : xs.length = n) {B : Option Addr} {m d : Nat} {ys : List α} (hx : a.eval x = .slice B m d) (hr : RdK R w B m ys) (hlen : (n + m) * 400 ≤ 140737488355327)
    (h : ∀ A' c' w', OwnK R w' A' c' (xs ++ ys) → w.grownBy w' (A.map (·.block)) → (A' = A ∨ A' = some ⟨w.heap.size, 0, none⟩) → wpListIn F nF Try.prog ops Q rest (a.put o.dst (.slice A' (n + m) c')) w') : wpListIn F nF Try.prog ops Q (o :: rest) a w := by
  refine wpListIn_plain hgd fun K hK' => ?_
  subst hn
  obtain ⟨A', c', w', hrun, h2, h3, h4⟩ := run_appK w o.type hown (d := d) hr hlen
  unfold Oper.wpIn
  refine ⟨?_, ?_⟩
  · simp [Oper.about, ho, resolve, Target.leads, Sem.run_pure]
  · rw [Oper.semAt_plain F _ _ (by rw [ho]; intro c hc'; cases hc')]
    simp [execOp, ho, resolve, invoke, builtin, hs, hx, hrun, Result.andThen]
    exact hK' _ _ (h A' c' w' h2 h3 h4)
theorem KeepsOthers.grown {w w' : World} {row : Option Nat} (h : w.grownBy w' row) (hr : ∀ k o, row = some k → w.heap[k]? = some o → o.isCells = true) : KeepsOthers w w' :=
  ⟨h.size, fun k o hk ho => (h.block k (lt_of_heap hk) (fun e => by rw [hr k o e.symm hk] at ho; cases ho)).trans hk⟩
theorem KeepsOthers.alloc1 (w : World) (o : Obj) : KeepsOthers w (w.alloc o) := ⟨by simp, fun k o' hk _ => (Below.heap_alloc _ _ _ (lt_of_heap hk)).trans hk⟩
theorem OwnK.cells {α : Type} {R : RowTy α} {w : World} {A : Option Addr} {c : Nat} {xs : List α} (h : OwnK R w A c xs) : ∀ k o, A.map (·.block) = some k → w.heap[k]? = some o → o.isCells = true := by
  intro k o hk ho
  rcases h with ⟨rfl, _, _⟩ | ⟨g, full, rfl, hg, _⟩
  · cases hk
  · simp at hk; subst hk; rw [hg] at ho; cases ho; rfl
theorem OwnK.putl {α : Type} {R : RowTy α} {w : World} {A : Option Addr} {c : Nat} {xs : List α} (h : OwnK R w A c xs) {l : Nat} {o o' : Obj} (hl : w.heap[l]? = some o) (ho : o.isCells = false) : OwnK R (w.putObj l o') A c xs := by
  rcases h with h | ⟨g, full, h1, h2, r⟩
  · exact .inl h
  · refine .inr ⟨g, full, h1, ?_, r⟩
    rw [World.putObj_heap_other (fun e => by subst e; rw [h2] at hl; cases hl; cases ho)]
    exact h2
theorem Chg.putl {S : List Nat} {a w : World} (h : Chg S a w) {l : Nat} {o' : Obj} (hl : a.heap.size ≤ l) : Chg S a (w.putObj l o') :=
  ⟨h.os, h.tape, h.output, by have := h.size; simp [World.putObj]; omega, fun k hk hn => (World.putObj_heap_other (by omega)).trans (h.block k hk hn)⟩
theorem Kpt.grown {n : Nat} {T : List Nat} {w w' : World} {row : Option Nat} (g : w.grownBy w' row) (hn : n ≤ w.heap.size) (hr : ∀ k, row = some k → n ≤ k ∨ k ∈ T) : Kpt n T w w' :=
  ⟨g.os, g.tape, g.output, g.size, fun k hk hT => g.block k (by omega) (fun e => by
    rcases hr k e.symm with h | h
    · omega
    · exact hT h)⟩
end
end Go.Proofs.Ytgafkphhnlifiaa
