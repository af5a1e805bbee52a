/- As XRangeo, over a method as a value (bound arguments la). A range over a function whose body also makes memory of its own (a row that grows): the iterator promises to leave alone all that there is but its own blocks. No program here. A range over a function whose body also makes memory of its own (a row that grows): the iterator promises to leave alone all that there is but its own blocks. No program here. Rows in the body of a range over a function (taken from XToway by gen/Ckcut2.py). past: what is kept. past: kept hands on what is kept. past.may. past.Within. event.bringsAll. Rows of events that are not long: purely. Closed events are in order, and one made behind them: purely. Which events clash: purely. Package dot: Sort: a copy, the library's sort, what is told twice left out. slices.Clone, slices.Compact over dots; dot.Sort. dot.Sort: each dot once, in order. -/
import Derived.Test.YtfdaclifapfmdaaGreatDoorZcac
import Derived.Test.YtfdaclifapfmdaaGreatDoorZcaa
import Derived.OwnWalkIn
import Derived.Test.YtfdaclifapfmdaaGreatDoorZcbe
import Derived.Test.YtfdaclifapfmdaaGreatDoorZcba
import Derived.Deep.Cut
import Derived.Deep.CutRange
import Derived.Sort.LoopGhostIn
import Derived.Test.YtfdaclifapfmdaaGreatDoorZcad
import Derived.Test.YtfdaclifapfmdaaGreatDoorZcbc
import Derived.Test.YtfdaclifapfmdaaGreatDoorZcag
import Derived.BigQuiet
import Derived.Test.YtfdaclifapfmdaaGreatDoorZcam
import Derived.Test.YtfdaclifapfmdaaGreatDoorZcaf
import Derived.Test.YtfdaclifapfmdaaGreatDoorZcab
import Derived.Test.YtfdaclifapfmdaaGreatDoorShelf5
namespace Go.Proofs.YtfdaclifapfmdaaGreatDoor
section
open Go.RowKit

theorem range_bound {α : Type} {P : Program} {n : Nat} {g : Operand} {ps : Array Tmp} {assign body : Code} {Q : Exit → Act → World → Prop} {a : Act} {w : World} {gf : Nat} {lb bd : Array Value}
    (hg : a.eval g = .func (.func gf) bd lb) (eg : ∀ args w, (callFunc gf args).run P w = .ok (.enter gf args) w) {encs : α → Array Value} {S Sp : List α → Prop} {Ex : List α → α → World → Prop} {Bd : List α → Prop} {n₁ : Nat} (hn₁ : n₁ ≤ w.heap.size) {Si T : List Nat} (hSi : ∀ x ∈ Si, x < w.heap.size)
    (hseq : ∀ (l : Nat) (J Jx : List α → World → Prop) (W : World), Below w.heap.size w W → (∀ pre A B, J pre A → Chg Si A B → J pre B) → (∀ pre A B, Jx pre A → Chg Si A B → Jx pre B) → (∀ pre A, J pre A → Bd pre) →
      (∀ pre x W1, J pre W1 → Ex pre x W1 → YieldAt Fence.wide (n - 1 - 1) P l (encs x) W1 fun e W' => (e = .returned (.bool true) ∧ J (pre ++ [x]) W' ∧ Kpt n₁ T W1 W') ∨ (e = .returned (.bool false) ∧ Jx (pre ++ [x]) W')) →
      J [] W → CallsIn Fence.wide (n - 1) P gf ((bd ++ #[.func (.yield l) #[] #[]]) ++ lb) W fun e W' => (∃ v, e = .returned v) ∧ ((∃ xs, S xs ∧ J xs W') ∨ ∃ xs, Sp xs ∧ Jx xs W'))
    (hps : ∀ x, (encs x).size = ps.size) (I : List α → World → Prop) (Ix : Code → List α → World → Prop) (hI : ∀ pre A B, I pre A → Chg Si A B → I pre B) (hIx : ∀ c pre A B, Ix c pre A → Chg Si A B → Ix c pre B)
    (hIl : ∀ pre W l o o', W.heap[l]? = some o → o.isCells = false → w.heap.size ≤ l → I pre W → I pre (W.putObj l o')) (hIxl : ∀ c pre W l o o', W.heap[l]? = some o → o.isCells = false → w.heap.size ≤ l → Ix c pre W → Ix c pre (W.putObj l o')) (hBd : ∀ pre A, I pre A → Bd pre) (h0 : I [] w)
    (hEx : ∀ pre x W l o o', W.heap[l]? = some o → o.isCells = false → Ex pre x W → Ex pre x (W.putObj l o')) (a₁ : α → Act)
    (hassign : ∀ (l : Nat) (x : α) (W : World) (K : Act → World → Prop), K (a₁ x) W →
      assign.wpIn (Fence.wide.inRound l) (n - 1 - 1) P (Exit.then K (fun _ _ _ => False)) { tmps := (ps.zip (encs x)).foldl (fun t (p, v) => t.setIfInBounds p v) a.tmps, defers := [] } W)
    (hbody : ∀ (l : Nat) (pre : List α) (x : α) (W : World), I pre W → Ex pre x W → body.wpIn (Fence.wide.inRound l) (n - 1 - 1) P (brkPost I Ix n₁ T (pre ++ [x]) W) (a₁ x) W)
    (hdone : ∀ (D : Nat) (xs : List α) (W : World), w.heap.size ≤ D → S xs → I xs W → W.heap[D]? = some (.deferred (some [])) → Q .normal { a with defers := { target := .collected D, args := #[] } :: a.defers } W)
    (hstop : ∀ (D : Nat) (c : Code) (xs : List α) (W : World), w.heap.size ≤ D → Sp xs → Ix c xs W → W.heap[D]? = some (.deferred (some [])) → c.wpIn Fence.wide n P Q { a with defers := { target := .collected D, args := #[] } :: a.defers } W) :
    (Code.rangeFunc g ps assign body).wpIn Fence.wide n P Q a w := by
  refine wpIn_rangeFunc ?_
  intro fn hfn
  obtain ⟨rc, hrc⟩ : ∃ rc : LoopState → Option Code → Loop, rc = fun st pe => { state := st, pending := pe, fn, tmps := a.tmps, params := ps, assign, body, defers := w.heap.size } := ⟨_, rfl⟩
  obtain ⟨V, hV, hcV, hD0, hL0⟩ := news2 w (.deferred (some [])) (.loop (rc .ready none))
  have hsV : V.heap.size = w.heap.size + 2 := by rw [hV]; simp
  have bV : Below w.heap.size w V := by rw [hV]; exact ((Below.refl _ w).alloc (Nat.le_refl _) _).alloc (by simp) _
  refine ⟨w.heap.size + 1, [{ target := .collected w.heap.size, args := #[] }], V, { target := .fn (.func gf) lb, args := bd ++ #[.func (.yield (w.heap.size + 1)) #[] #[]] }, V, gf,
    (bd ++ #[.func (.yield (w.heap.size + 1)) #[] #[]]) ++ lb, V, ?_, ?_, fun _ _ => trivial, ?_, fun h => by simp [Fence.wide] at h, ?_⟩
  · rw [hV, hrc]; exact run_enterLoop_outer _ _ _ _ _
  · simp only [resolve, hg]
    simp [go_sem]
  · simp [invoke, go_sem, eg]
  · -- the record and the row of deferred calls, turned or not, lie at or behind w's end
    have turn : ∀ (W : World) (o : Obj) (o' : Obj), W.heap[w.heap.size + 1]? = some o → o.isCells = false → o.isWalk = false → ∀ m, m ≤ w.heap.size → Below m W (W.putObj (w.heap.size + 1) o') :=
      fun W o o' h hc hw m hm => belowK_b (w := w) hm W _ o o' (by omega) h hc hw
    have far : ∀ k, w.heap.size ≤ k → k ∉ Si := fun k hk h => by have := hSi k h; omega
    refine (hseq (w.heap.size + 1) (fun pre W => I pre W ∧ W.heap[w.heap.size + 1]? = some (.loop (rc .ready none)) ∧ W.heap[w.heap.size]? = some (.deferred (some [])))
      (fun pre W => ∃ c, Ix c pre W ∧ W.heap[w.heap.size + 1]? = some (.loop (rc .done (some c))) ∧ W.heap[w.heap.size]? = some (.deferred (some []))) V bV ?_ ?_ (fun pre A h => hBd _ _ h.1) ?_
      ⟨hI _ _ _ h0 (Chg.ofBelow bV (Nat.le_refl _) _), hL0, hD0⟩).mono ?_
    · rintro pre A B ⟨hi, hl, hk⟩ hb
      exact ⟨hI _ _ _ hi hb, hb.at_ hl (far _ (by omega)), hb.at_ hk (far _ (Nat.le_refl _))⟩
    · rintro pre A B ⟨c, hi, hl, hk⟩ hb
      exact ⟨c, hIx _ _ _ _ hi hb, hb.at_ hl (far _ (by omega)), hb.at_ hk (far _ (Nat.le_refl _))⟩
    · rintro pre x W ⟨hi, hl, hk⟩ hx
      have hlt := lt_of_heap hl
      have hy := run_yield (P := P) (args := encs x) hl (by rw [hrc]; exact hps x)
      rw [hrc] at hy
      refine ⟨fn, _, assign, body, hy, roundIn_of_wpIn hfn (hassign _ x W _ ⟨_, run_beginRound hl (by rw [hrc]), ?_⟩)⟩
      have hl2 : (W.putObj (w.heap.size + 1) (.loop { rc .ready none with state := .busy })).heap[w.heap.size + 1]? = some (.loop { rc .ready none with state := .busy }) := World.putObj_heap_same hlt
      have hk2 : (W.putObj (w.heap.size + 1) (.loop { rc .ready none with state := .busy })).heap[w.heap.size]? = some (.deferred (some [])) := (World.putObj_heap_other (by omega)).trans hk
      have b2 := turn W _ (.loop { rc .ready none with state := .busy }) hl rfl rfl
      refine wpIn_mono (hbody _ pre x _ (hIl _ _ _ _ _ hl rfl (by omega) hi) (hEx pre x W _ _ _ hl rfl hx)) ?_
      have fin : ∀ (c : Code) (W3 : World), KeepsOthers (W.putObj (w.heap.size + 1) (.loop { rc .ready none with state := .busy })) W3 → Ix c (pre ++ [x]) W3 →
          ∃ v w', (Instr.endRound (w.heap.size + 1) (some c)).run P W3 = .ok v w' ∧ ((Ending.returned v = .returned (.bool true) ∧ (I (pre ++ [x]) w' ∧ w'.heap[w.heap.size + 1]? = some (.loop (rc .ready none)) ∧ w'.heap[w.heap.size]? = some (.deferred (some []))) ∧ Kpt n₁ T W w') ∨
            (Ending.returned v = .returned (.bool false) ∧ ∃ c, Ix c (pre ++ [x]) w' ∧ w'.heap[w.heap.size + 1]? = some (.loop (rc .done (some c))) ∧ w'.heap[w.heap.size]? = some (.deferred (some [])))) := by
        intro c W3 hk3 hi3
        have hl3 := hk3.same _ _ hl2 rfl
        have hd3 := hk3.same _ _ hk2 rfl
        have hr := run_endRound (P := P) (some c) hl3
        have b4 := turn W3 _ (.loop (rc .done (some c))) hl3 rfl rfl
        refine ⟨_, _, hr, .inr ⟨rfl, c, ?_, ?_, ?_⟩⟩
        · have := hIxl _ _ _ _ _ (.loop (rc .done (some c))) hl3 rfl (by omega) hi3
          rw [hrc] at this ⊢
          exact this
        · rw [hrc]; exact World.putObj_heap_same (lt_of_heap hl3)
        · exact (World.putObj_heap_other (by omega)).trans hd3
      rintro e a3 W3 hp
      cases e with
      | normal =>
        obtain ⟨hk3, hb3, hi3⟩ := hp
        have hl3 := hk3.same _ _ hl2 rfl
        have hd3 := hk3.same _ _ hk2 rfl
        have hr := run_endRound (P := P) none hl3
        have b4 := turn W3 _ (.loop (rc .ready none)) hl3 rfl rfl
        refine ⟨_, _, hr, .inl ⟨rfl, ⟨?_, ?_, ?_⟩, ?_⟩⟩
        · have := hIl _ _ _ _ (.loop (rc .ready none)) hl3 rfl (by omega) hi3
          rw [hrc] at this ⊢
          exact this
        · rw [hrc]; exact World.putObj_heap_same (lt_of_heap hl3)
        · exact (World.putObj_heap_other (by omega)).trans hd3
        · have := ((Kpt.of_below (T := T) (b2 _ hn₁) (Nat.le_refl _)).trans hb3).trans (Kpt.of_below (b4 _ hn₁) (Nat.le_refl _))
          rw [hrc] at this ⊢
          exact this
      | ret => exact fin .ret W3 hp.1 hp.2
      | exit id => exact fin (.exit id) W3 hp.1 hp.2
      | goto t => exact hp.elim
      | panic ch => exact hp.elim
      | outgrown => exact hp.elim
    · rintro e W2 ⟨⟨v, rfl⟩, (⟨xs, hS, hi, hl, hk⟩ | ⟨xs, hS, c, hi, hl, hk⟩)⟩
      · refine ⟨none, _, by have := run_endLoop (P := P) hl (by rw [hrc]; simp); rw [hrc] at this; exact this, hdone _ xs _ (Nat.le_refl _) hS ?_ ((World.putObj_heap_other (by omega)).trans hk)⟩
        exact hIl _ _ _ _ _ hl rfl (by omega) hi
      · refine ⟨some c, _, by have := run_endLoop (P := P) hl (by rw [hrc]; simp); rw [hrc] at this; exact this, hstop _ c xs _ (Nat.le_refl _) hS ?_ ((World.putObj_heap_other (by omega)).trans hk)⟩
        exact hIxl _ _ _ _ _ _ hl rfl (by omega) hi
end
section
open Go.RowKit
end
section
open Go.RowKit
set_option linter.unusedSimpArgs false
set_option linter.unusedVariables false
attribute [local go_sem] Oper.semAt_some
theorem KeepsOthers.grown {w w' : World} {row : Option Nat} (h : w.grownBy w' row) (hr : ∀ k o, row = some k → w.heap[k]? = some o → o.isCells = true) : KeepsOthers w w' :=
  ⟨h.size, fun k o hk ho => (h.block k (lt_of_heap hk) (fun e => by rw [hr k o e.symm hk] at ho; cases ho)).trans hk⟩
theorem OwnK.cells {α : Type} {R : RowTy α} {w : World} {A : Option Addr} {c : Nat} {xs : List α} (h : OwnK R w A c xs) : ∀ k o, A.map (·.block) = some k → w.heap[k]? = some o → o.isCells = true := by
  intro k o hk ho
  rcases h with ⟨rfl, _, _⟩ | ⟨g, full, rfl, hg, _⟩
  · cases hk
  · simp at hk; subst hk; rw [hg] at ho; cases ho; rfl
theorem OwnK.putl {α : Type} {R : RowTy α} {w : World} {A : Option Addr} {c : Nat} {xs : List α} (h : OwnK R w A c xs) {l : Nat} {o o' : Obj} (hl : w.heap[l]? = some o) (ho : o.isCells = false) : OwnK R (w.putObj l o') A c xs := by
  rcases h with h | ⟨g, full, h1, h2, r⟩
  · exact .inl h
  · refine .inr ⟨g, full, h1, ?_, r⟩
    rw [World.putObj_heap_other (fun e => by subst e; rw [h2] at hl; cases hl; cases ho)]
    exact h2
theorem Chg.putl {S : List Nat} {a w : World} (h : Chg S a w) {l : Nat} {o' : Obj} (hl : a.heap.size ≤ l) : Chg S a (w.putObj l o') :=
  ⟨h.os, h.tape, h.output, by have := h.size; simp [World.putObj]; omega, fun k hk hn => (World.putObj_heap_other (by omega)).trans (h.block k hk hn)⟩
theorem Kpt.grown {n : Nat} {T : List Nat} {w w' : World} {row : Option Nat} (g : w.grownBy w' row) (hn : n ≤ w.heap.size) (hr : ∀ k, row = some k → n ≤ k ∨ k ∈ T) : Kpt n T w w' :=
  ⟨g.os, g.tape, g.output, g.size, fun k hk hT => g.block k (by omega) (fun e => by
    rcases hr k e.symm with h | h
    · omega
    · exact hT h)⟩
end
section
open Go.RowKit Go.Lib
set_option linter.unusedSimpArgs false
set_option linter.unusedVariables false


theorem first_any (w : World) (x y : Bool) : Calls Tryz.prog 151 #[.bool x, .bool y] w fun e w' => e = .returned (.bool (kF x y)) ∧ Chg [] w w' := by
  cases x <;> cases y
  all_goals
    go_enter Tryz.func151, Tryz.ntmps151
    go_wp2
    go_ret
    exact ⟨rfl, Chg.refl _ _⟩
theorem RdK.kpt {α : Type} {R : RowTy α} {w w' : World} {n₁ : Nat} {T : List Nat} {A : Option Addr} {n : Nat} {xs : List α} (h : RdK R w A n xs) (hk : Kpt n₁ T w w') (ha : ∀ a, A = some a → a.block < n₁ ∧ a.block ∉ T) : RdK R w' A n xs := by
  refine ⟨h.len, fun j v hj => ?_⟩
  obtain ⟨a, e, hc⟩ := h.cells j v hj
  refine ⟨a, e, ?_⟩
  have := ha a e
  have e2 : (a.add j).block = a.block := by unfold Addr.add; split <;> rfl
  exact (World.cell?_of_block (hk.block (a.add j).block (by rw [e2]; exact this.1) (by rw [e2]; exact this.2))).trans hc
theorem SwP.kpt {w w' : World} {n₁ : Nat} {T : List Nat} {g : Nat} {X : List Nat} {la lb : List Sp} {kf : Nat} (h : SwP w g X la lb kf) (hk : Kpt n₁ T w w') (hg : g < n₁ ∧ g ∉ T) (hX : ∀ z ∈ X, z < n₁ ∧ z ∉ T) : SwP w' g X la lb kf := by
  obtain ⟨A, c, B, d, h⟩ := h
  exact ⟨A, c, B, d, (hk.block g hg.1 hg.2).trans h.hg, rd_old h.ra (h.na.imp id (fun q => h.ra.kpt hk (fun a ha => hX _ (q a ha)))), h.ca, h.na, rd_old h.rb (h.nb.imp id (fun q => h.rb.kpt hk (fun a ha => hX _ (q a ha)))), h.cb, h.nb, h.gx⟩
end
section
open Go.RowKit Go.Lib
set_option linter.unusedSimpArgs false
set_option linter.unusedVariables false


set_option maxRecDepth 100000 in
set_option maxHeartbeats 8000000 in
theorem kept_first (n l n₁ g : Nat) (T X : List Nat) (a b : List Sp) (J Jx : List Sp → World → Prop) (W : World) (hg1 : g < n₁ ∧ g ∉ T) (hX : ∀ z ∈ X, z < n₁ ∧ z ∉ T) (hn₁ : n₁ ≤ W.heap.size)
    (hJ : ∀ pre A B, J pre A → Chg [g] A B → J pre B)
    (hY : ∀ pre x W1, J pre W1 → (B3 x ∧ (∀ y ∈ pre, Le y x) ∧ pre.length < potP a b ∧ ∀ n s, InS x n s → kF (memb a n s) (memb b n s) = true) → YieldAt Fence.wide n Tryz.prog l #[.agg #[.int .i64 x.1, .int .i64 x.2.1, .int .i64 x.2.2]] W1 fun e W' => (e = .returned (.bool true) ∧ J (pre ++ [x]) W' ∧ Kpt n₁ T W1 W') ∨ (e = .returned (.bool false) ∧ Jx (pre ++ [x]) W'))
    (h0 : SwP W g X a b 151) (ha : WfC a) (hb : WfC b) (hj : J [] W) :
    CallsIn Fence.wide (n + 1) Tryz.prog 152 #[.pointer (some ⟨g, 0, none⟩), .func (.yield l) #[] #[]] W fun e W' => (∃ v, e = .returned v) ∧ ((∃ pre, SwInv kF a b [] [] pre ∧ J pre W') ∨ ∃ pre, Jx pre W') := by
  refine callsIn_of_wp Tryz.func152 rfl trivial ?_ rfl
  simp only [Tryz.ntmps152, List.size_toArray, List.length_cons, List.length_nil, Nat.reduceAdd, Nat.reduceSub, Array.replicate_succ, Array.replicate_zero, List.push_toArray, List.append_toArray, List.nil_append, List.cons_append]
  have HK := Lib.hid (fun (w : World) (x y : Bool) => first_any w x y)
  gi_wp2
  gi_loopg [] (dotsN a + dotsN b + 1) (fun G wr => ∃ (la lb pre : List Sp), Hid (SwInv kF a b la lb pre) ∧ Hid (SwP wr g X la lb 151) ∧ J pre wr ∧ Hid (n₁ ≤ wr.heap.size) ∧ dotsN la + dotsN lb < G)
  case atStart => exact ⟨a, b, [], Lib.hid (SwInv.begin ha hb), Lib.hid h0, hj, Lib.hid hn₁, by omega⟩
  case round =>
    obtain ⟨la, lb, pre, HI, HS, hJs, HN, hG⟩ := hrel
    have HJ0 := Lib.hid hJs
    have HG := Lib.hid hG
    clear hJs hG
    by_cases hne : la ≠ [] ∨ lb ≠ []
    rotate_left
    · have ea : la = [] := by by_cases e : la = []; exact e; exact absurd (.inl e) hne
      have eb : lb = [] := by by_cases e : lb = []; exact e; exact absurd (.inr e) hne
      subst ea
      subst eb
      obtain ⟨A, c, B, d, hs⟩ := HS.out
      have z0 := cell_of hs.hg 0
      have z4 := cell_of hs.hg 4
      simp only [List.getElem?_toArray, List.getElem?_cons_succ, List.getElem?_cons_zero, hd_nil] at z0 z4
      clear hs hne
      gi_wp2
      go_end0
      exact ⟨⟨_, rfl⟩, .inl ⟨pre, HI.out, HJ0.out⟩⟩
    have so := step_ok HI.out.wa HI.out.wb hne
    have st := fun hX' => step_any wr g X la lb 151 HS.out hX' HI.out.wa HI.out.wb hne
    replace st := st (fun z hz => by have := (hX z hz).1; have := HN.out; omega)
    have c12 : ((hdP la).1 != 201) = true ∨ ((hdP la).1 != 201) = false ∧ ((hdP lb).1 != 201) = true := by
      cases la with
      | cons x r => left; have := HI.out.wa.2 x (by simp); rw [hd_cons]; simp; omega
      | nil =>
        right
        cases lb with
        | nil => exact absurd rfl (hne.elim id id)
        | cons x r => have := HI.out.wb.2 x (by simp); rw [hd_cons, hd_nil]; simp; omega
    generalize pieceP (hdP la) (hdP lb) = p at so st
    generalize inP (hdP la) (hdP lb) = ia at so st
    generalize inP (hdP lb) (hdP la) = ib at so st
    generalize leftP la ia p.2.2 = la' at so st
    generalize leftP lb ib p.2.2 = lb' at so st
    have KI := Lib.hid (fun w => HK.out w ia ib)
    have SO := Lib.hid so
    have ST := Lib.hid st
    have ND0 := Lib.hid (HI.out.step (k := kF) (by rfl) so)
    clear so st hne
    have OKP : Hid (SpOk p ∧ B3 p) := Lib.hid (by have := SO.out.ok; unfold B3 SpOk at *; omega)
    obtain ⟨A, c, B, d, hs⟩ := HS.out
    have z0 := cell_of hs.hg 0
    have z4 := cell_of hs.hg 4
    simp only [List.getElem?_toArray, List.getElem?_cons_succ, List.getElem?_cons_zero] at z0 z4
    have GLT := Lib.hid (lt_of_heap hs.hg)
    clear hs HS
    generalize (hdP la).1 = ha1 at *
    generalize (hdP lb).1 = hb1 at *
    generalize hkv : kF ia ib = kv at KI ND0
    cases kv
    case false =>
      have ND : Hid (SwInv kF a b la' lb' pre) := Lib.hid (by have := ND0.out; rwa [if_neg (by simp)] at this)
      clear ND0 hkv
      rcases c12 with c1 | ⟨c1, c2⟩
      · skip
        gi_wp2_with (refine ⟨trivial, ?_⟩; gi_at_call 180; refine (callsIn_wide.2 ST.out).mono ?_; rintro e w1 ⟨rfl, h1, h2⟩; obtain ⟨A', c', B', d', hs⟩ := h1; have HQ := Lib.hid hs; have CG := Lib.hid h2; have z8 : (w1.alloc (.cells #[.int .i64 p.1, .int .i64 p.2.1, .int .i64 p.2.2] 95)).cell? ⟨g, 8, none⟩ = some (.func (.func 151) #[] #[]) := ((Chg.refl [] w1).alloc _).cell (show w1.cell? ⟨g, 8, none⟩ = some (.func (.func 151) #[] #[]) from (cell_of hs.hg 8).trans rfl) (by simp); clear hs h2)
        clear z0 z4 c1
        obtain ⟨w2, hw2, c2', b2⟩ := news1 w1 (.cells #[.int .i64 p.1, .int .i64 p.2.1, .int .i64 p.2.2] 95)
        rw [← hw2] at z8 ⊢
        have B2 := Lib.hid b2
        have C2 := Lib.hid (CG.out.trans (c2'.mono (S' := [g]) (by simp)))
        replace HQ := Lib.hid (HQ.out.chg c2' (by simp) (by simp))
        clear hw2 c2' b2
        generalize w1.heap.size = gp at *
        gi_wp2_with (refine ⟨trivial, ?_⟩; gi_at_call 151; refine (callsIn_wide.2 (KI.out _)).mono ?_; rintro e w3 ⟨rfl, hc⟩; have C3 := Lib.hid hc; clear hc)
        refine ⟨(fun f hf => by cases hf), ?_⟩
        gi_wp2
        gi_roundg (dotsN la + dotsN lb)
        case measure => exact HG.out
        case rel => exact ⟨la', lb', pre, ND, Lib.hid ⟨_, _, _, _, HQ.out.chg C3.out (by simp) (by simp)⟩, hJ _ _ _ HJ0.out (C2.out.trans (C3.out.mono (by simp))), Lib.hid (Nat.le_trans HN.out (Nat.le_trans C2.out.size C3.out.size)), SO.out.dec⟩
      · skip
        gi_wp2_with (refine ⟨trivial, ?_⟩; gi_at_call 180; refine (callsIn_wide.2 ST.out).mono ?_; rintro e w1 ⟨rfl, h1, h2⟩; obtain ⟨A', c', B', d', hs⟩ := h1; have HQ := Lib.hid hs; have CG := Lib.hid h2; have z8 : (w1.alloc (.cells #[.int .i64 p.1, .int .i64 p.2.1, .int .i64 p.2.2] 95)).cell? ⟨g, 8, none⟩ = some (.func (.func 151) #[] #[]) := ((Chg.refl [] w1).alloc _).cell (show w1.cell? ⟨g, 8, none⟩ = some (.func (.func 151) #[] #[]) from (cell_of hs.hg 8).trans rfl) (by simp); clear hs h2)
        clear z0 z4 c1 c2
        obtain ⟨w2, hw2, c2', b2⟩ := news1 w1 (.cells #[.int .i64 p.1, .int .i64 p.2.1, .int .i64 p.2.2] 95)
        rw [← hw2] at z8 ⊢
        have B2 := Lib.hid b2
        have C2 := Lib.hid (CG.out.trans (c2'.mono (S' := [g]) (by simp)))
        replace HQ := Lib.hid (HQ.out.chg c2' (by simp) (by simp))
        clear hw2 c2' b2
        generalize w1.heap.size = gp at *
        gi_wp2_with (refine ⟨trivial, ?_⟩; gi_at_call 151; refine (callsIn_wide.2 (KI.out _)).mono ?_; rintro e w3 ⟨rfl, hc⟩; have C3 := Lib.hid hc; clear hc)
        refine ⟨(fun f hf => by cases hf), ?_⟩
        gi_wp2
        gi_roundg (dotsN la + dotsN lb)
        case measure => exact HG.out
        case rel => exact ⟨la', lb', pre, ND, Lib.hid ⟨_, _, _, _, HQ.out.chg C3.out (by simp) (by simp)⟩, hJ _ _ _ HJ0.out (C2.out.trans (C3.out.mono (by simp))), Lib.hid (Nat.le_trans HN.out (Nat.le_trans C2.out.size C3.out.size)), SO.out.dec⟩
    case true =>
      have ND : Hid (SwInv kF a b la' lb' (pre ++ [p])) := Lib.hid (by have := ND0.out; rwa [if_pos rfl] at this)
      have LEP : Hid (∀ y ∈ pre, Le y p) := Lib.hid (fun y hy => (List.pairwise_append.1 ND.out.up).2.2 y hy p (by simp))
      have HYF := Lib.hid (fun W' (hc : Chg [g] wr W') => hY pre p W' (hJ pre wr W' HJ0.out hc) ⟨OKP.out.2, LEP.out, by have := ND.out.cnt; simp at this; omega, fun n s q => (ND.out.m n s).2 (.inl (mem_append.2 (.inr (mem_one.2 q))))⟩)
      clear ND0 hkv
      rcases c12 with c1 | ⟨c1, c2⟩
      · skip
        gi_wp2_with (refine ⟨trivial, ?_⟩; gi_at_call 180; refine (callsIn_wide.2 ST.out).mono ?_; rintro e w1 ⟨rfl, h1, h2⟩; obtain ⟨A', c', B', d', hs⟩ := h1; have HQ := Lib.hid hs; have CG := Lib.hid h2; have z8 : (w1.alloc (.cells #[.int .i64 p.1, .int .i64 p.2.1, .int .i64 p.2.2] 95)).cell? ⟨g, 8, none⟩ = some (.func (.func 151) #[] #[]) := ((Chg.refl [] w1).alloc _).cell (show w1.cell? ⟨g, 8, none⟩ = some (.func (.func 151) #[] #[]) from (cell_of hs.hg 8).trans rfl) (by simp); clear hs h2)
        clear z0 z4 c1
        obtain ⟨w2, hw2, c2', b2⟩ := news1 w1 (.cells #[.int .i64 p.1, .int .i64 p.2.1, .int .i64 p.2.2] 95)
        rw [← hw2] at z8 ⊢
        have B2 := Lib.hid b2
        have C2 := Lib.hid (CG.out.trans (c2'.mono (S' := [g]) (by simp)))
        replace HQ := Lib.hid (HQ.out.chg c2' (by simp) (by simp))
        clear hw2 c2' b2
        generalize w1.heap.size = gp at *
        gi_wp2_with (refine ⟨trivial, ?_⟩; gi_at_call 151; refine (callsIn_wide.2 (KI.out _)).mono ?_; rintro e w3 ⟨rfl, hc⟩; have C3 := Lib.hid hc; have b3 := hc.at_ B2.out (by simp); have y0 := cell_of b3 0; have y1 := cell_of b3 1; have y2 := cell_of b3 2; simp only [List.getElem?_toArray, List.getElem?_cons_succ, List.getElem?_cons_zero] at y0 y1 y2; clear b3; obtain ⟨fn, tmps, assign, body, hy, hRn⟩ := HYF.out w3 (C2.out.trans (hc.mono (by simp))); clear hc)
        refine hRn.mono ?_
        clear y0 y1 y2 hy
        rintro e w4 (⟨rfl, hJ4, hk4⟩ | ⟨rfl, hx⟩)
        · have J4 := Lib.hid hJ4
          have K4 := Lib.hid hk4
          clear hJ4 hk4 hRn
          gi_wp2
          gi_roundg (dotsN la + dotsN lb)
          case measure => exact HG.out
          case rel => exact ⟨la', lb', pre ++ [p], ND, Lib.hid ((show SwP w3 g X la' lb' 151 from ⟨_, _, _, _, HQ.out.chg C3.out (by simp) (by simp)⟩).kpt K4.out hg1 hX), J4.out, Lib.hid (Nat.le_trans HN.out (Nat.le_trans C2.out.size (Nat.le_trans C3.out.size K4.out.size))), SO.out.dec⟩
        · have JX := Lib.hid hx
          clear hx hRn
          gi_wp2
          refine bodyPost_ret (results_none rfl _ _ _) rfl ?_
          exact ⟨⟨_, rfl⟩, .inr ⟨_, JX.out⟩⟩
      · skip
        gi_wp2_with (refine ⟨trivial, ?_⟩; gi_at_call 180; refine (callsIn_wide.2 ST.out).mono ?_; rintro e w1 ⟨rfl, h1, h2⟩; obtain ⟨A', c', B', d', hs⟩ := h1; have HQ := Lib.hid hs; have CG := Lib.hid h2; have z8 : (w1.alloc (.cells #[.int .i64 p.1, .int .i64 p.2.1, .int .i64 p.2.2] 95)).cell? ⟨g, 8, none⟩ = some (.func (.func 151) #[] #[]) := ((Chg.refl [] w1).alloc _).cell (show w1.cell? ⟨g, 8, none⟩ = some (.func (.func 151) #[] #[]) from (cell_of hs.hg 8).trans rfl) (by simp); clear hs h2)
        clear z0 z4 c1 c2
        obtain ⟨w2, hw2, c2', b2⟩ := news1 w1 (.cells #[.int .i64 p.1, .int .i64 p.2.1, .int .i64 p.2.2] 95)
        rw [← hw2] at z8 ⊢
        have B2 := Lib.hid b2
        have C2 := Lib.hid (CG.out.trans (c2'.mono (S' := [g]) (by simp)))
        replace HQ := Lib.hid (HQ.out.chg c2' (by simp) (by simp))
        clear hw2 c2' b2
        generalize w1.heap.size = gp at *
        gi_wp2_with (refine ⟨trivial, ?_⟩; gi_at_call 151; refine (callsIn_wide.2 (KI.out _)).mono ?_; rintro e w3 ⟨rfl, hc⟩; have C3 := Lib.hid hc; have b3 := hc.at_ B2.out (by simp); have y0 := cell_of b3 0; have y1 := cell_of b3 1; have y2 := cell_of b3 2; simp only [List.getElem?_toArray, List.getElem?_cons_succ, List.getElem?_cons_zero] at y0 y1 y2; clear b3; obtain ⟨fn, tmps, assign, body, hy, hRn⟩ := HYF.out w3 (C2.out.trans (hc.mono (by simp))); clear hc)
        refine hRn.mono ?_
        clear y0 y1 y2 hy
        rintro e w4 (⟨rfl, hJ4, hk4⟩ | ⟨rfl, hx⟩)
        · have J4 := Lib.hid hJ4
          have K4 := Lib.hid hk4
          clear hJ4 hk4 hRn
          gi_wp2
          gi_roundg (dotsN la + dotsN lb)
          case measure => exact HG.out
          case rel => exact ⟨la', lb', pre ++ [p], ND, Lib.hid ((show SwP w3 g X la' lb' 151 from ⟨_, _, _, _, HQ.out.chg C3.out (by simp) (by simp)⟩).kpt K4.out hg1 hX), J4.out, Lib.hid (Nat.le_trans HN.out (Nat.le_trans C2.out.size (Nat.le_trans C3.out.size K4.out.size))), SO.out.dec⟩
        · have JX := Lib.hid hx
          clear hx hRn
          gi_wp2
          refine bodyPost_ret (results_none rfl _ _ _) rfl ?_
          exact ⟨⟨_, rfl⟩, .inr ⟨_, JX.out⟩⟩
end
section
open Go.RowKit Go.Lib
set_option linter.unusedSimpArgs false
set_option linter.unusedVariables false


set_option maxHeartbeats 1000000 in
theorem may_any (w : World) (A : Option Addr) (n c : Nat) (xs : List Sp) (h : RdK spanTy w A n xs) (hn : n ≤ 140737488351232) (B : Option Addr) (m d : Nat) (ys : List Sp) (h' : RdK spanTy w B m ys) (hm : m ≤ 140737488351232) :
    Calls Tryz.prog 149 #[.slice A n c, .slice B m d] w fun e w' => e = .returned (.bool (decide (chkS xs = 0 ∧ chkS ys = 0))) ∧ Chg [] w w' := by
  have H := Lib.hid h
  have H' := Lib.hid h'
  have HN := Lib.hid hn
  have HM := Lib.hid hm
  clear h h' hn hm
  have go : ∀ v, decide (chkS xs = 0 ∧ chkS ys = 0) = v → Calls Tryz.prog 149 #[.slice A n c, .slice B m d] w (fun e w' => e = .returned (.bool v) ∧ Chg [] w w') → Calls Tryz.prog 149 #[.slice A n c, .slice B m d] w fun e w' => e = .returned (.bool (decide (chkS xs = 0 ∧ chkS ys = 0))) ∧ Chg [] w w' := fun v hv h => hv ▸ h
  rcases chk_two xs with e1 | e1 <;> rcases chk_two ys with e2 | e2
  · refine go true (by rw [e1, e2]; rfl) ?_
    clear go
    go_enter Tryz.func149, Tryz.ntmps149
    go_wp2_with fail
    refine (pacheck_any w A n c xs H.out HN.out).mono ?_
    rintro e w1 ⟨rfl, h1⟩
    rw [e1]
    have C1 := Lib.hid h1
    clear h1
    go_wp2_with fail
    refine (pacheck_any w1 B m d ys (H'.out.chg C1.out (by simp)) HM.out).mono ?_
    rintro e w2 ⟨rfl, h2⟩
    rw [e2]
    have C2 := Lib.hid (C1.out.trans h2)
    clear h2
    go_wp2
    go_ret
    exact ⟨rfl, C2.out⟩
  · refine go false (by rw [e1, e2]; rfl) ?_
    clear go
    go_enter Tryz.func149, Tryz.ntmps149
    go_wp2_with fail
    refine (pacheck_any w A n c xs H.out HN.out).mono ?_
    rintro e w1 ⟨rfl, h1⟩
    rw [e1]
    have C1 := Lib.hid h1
    clear h1
    go_wp2_with fail
    refine (pacheck_any w1 B m d ys (H'.out.chg C1.out (by simp)) HM.out).mono ?_
    rintro e w2 ⟨rfl, h2⟩
    rw [e2]
    have C2 := Lib.hid (C1.out.trans h2)
    clear h2
    go_wp2
    go_ret
    exact ⟨rfl, C2.out⟩
  · refine go false (by rw [e1, e2]; rfl) ?_
    clear go
    go_enter Tryz.func149, Tryz.ntmps149
    go_wp2_with fail
    refine (pacheck_any w A n c xs H.out HN.out).mono ?_
    rintro e w1 ⟨rfl, h1⟩
    rw [e1]
    have C1 := Lib.hid h1
    clear h1
    go_wp2
    go_ret
    exact ⟨rfl, C1.out⟩
  · refine go false (by rw [e1, e2]; rfl) ?_
    clear go
    go_enter Tryz.func149, Tryz.ntmps149
    go_wp2_with fail
    refine (pacheck_any w A n c xs H.out HN.out).mono ?_
    rintro e w1 ⟨rfl, h1⟩
    rw [e1]
    have C1 := Lib.hid h1
    clear h1
    go_wp2
    go_ret
    exact ⟨rfl, C1.out⟩
end
section
open Go.RowKit Go.Lib
set_option linter.unusedSimpArgs false
set_option linter.unusedVariables false
attribute [local go_sem] Oper.semAt_some

theorem minus_one {a b : List Sp} {x : Sp} (ha : WfC a) (hb : WfC b) (hx : B3 x) (h : ∀ n s, InS x n s → kF (memb a n s) (memb b n s) = true) : b.foldl withoutP a ≠ [] := by
  intro e
  obtain ⟨_, f⟩ := withouts_norm (b := b) hb.1.1 ha.1
  have q := h x.1 x.2.1 ⟨rfl, Int.le_refl _, by unfold B3 at hx; omega⟩
  unfold kF at q
  rw [Bool.and_eq_true, memb_iff] at q
  have m := (f x.1 x.2.1).2 ⟨q.1, by have := q.2; simpa [memb] using this⟩
  rw [e] at m
  exact mem_nil m
theorem within_result (tmps : Array Value) (w : World) (g : Nat) (v : Value) (hp : tmps[4]?.getD undef = .pointer (some ⟨g, 0, none⟩)) (hc : w.cell? ⟨g, 0, none⟩ = some v) : (results Tryz.f110 tmps).run Tryz.prog w = .ok v w := by
  have h : Tryz.f110.results = #[.cell 4 4] := rfl
  simp [results, h, hp, asAddr, go_sem, loadVar, Tryz.underlying4, hc]
/-- The block of a row that is not empty. -/
def oldB (xs : List Sp) (A : Option Addr) : List Nat := if xs = [] then [] else blkOf A
theorem oldB_in (xs : List Sp) (A : Option Addr) : xs = [] ∨ ∀ a, A = some a → a.block ∈ oldB xs A := by
  by_cases h : xs = []
  · exact .inl h
  · exact .inr (fun a ha => by unfold oldB; rw [if_neg h]; exact mem_blkOf ha)
theorem oldB_of {xs : List Sp} {A : Option Addr} {i : Nat} (h : i ∈ oldB xs A) : xs ≠ [] ∧ ∃ a, A = some a ∧ a.block = i := by
  unfold oldB at h
  by_cases q : xs = []
  · rw [if_pos q] at h; cases h
  · rw [if_neg q] at h; exact ⟨q, of_blkOf h⟩
set_option maxRecDepth 100000 in
set_option maxHeartbeats 8000000 in
theorem within_anyw (w : World) (A : Option Addr) (c : Nat) (xs : List Sp) (B : Option Addr) (d : Nat) (ys : List Sp) (h : RdK spanTy w A xs.length xs) (hc : xs.length ≤ c ∧ c ≤ maxLen) (ho : xs = [] ∨ ∀ a, A = some a → a.block < w.heap.size) (h' : RdK spanTy w B ys.length ys) (hd : ys.length ≤ d ∧ d ≤ maxLen) (ho' : ys = [] ∨ ∀ a, B = some a → a.block < w.heap.size) (hn : xs.length ≤ 140737488351232) (hm : ys.length ≤ 140737488351232) :
    Calls Tryz.prog 110 #[.slice A xs.length c, .slice B ys.length d] w fun e w' => e = .returned (.bool (withinE xs ys)) ∧ Chg [] w w' := by
  obtain ⟨w0, hw0, c0, b0⟩ := news1 w (.cells #[.bool false] 4)
  have W0 := Lib.hid hw0
  have C0 := Lib.hid c0
  have B0 := Lib.hid b0
  have LR := Lib.hid (lt_of_heap b0)
  have H := Lib.hid (h.chg c0 (by simp))
  have H' := Lib.hid (h'.chg c0 (by simp))
  have HC := Lib.hid hc
  have HD := Lib.hid hd
  have HO := Lib.hid ho
  have HO' := Lib.hid ho'
  have HN := Lib.hid (show xs.length ≤ 140737488351232 ∧ ys.length ≤ 140737488351232 from ⟨hn, hm⟩)
  clear h h' hc hd ho ho' hn hm hw0 c0 b0
  have M := Lib.hid (may_any w0 A xs.length c xs H.out HN.out.1 B ys.length d ys H'.out HN.out.2)
  by_cases hk : chkS xs = 0 ∧ chkS ys = 0
  rotate_left
  · have eE : withinE xs ys = false := by unfold withinE; rw [decide_eq_false hk]; rfl
    rw [decide_eq_false hk] at M
    rw [eE]
    clear hk eE
    go_enter Tryz.func110, Tryz.ntmps110
    go_upto_region 1 with fail
    rw [← W0.out]
    generalize hr0 : w.heap.size = r0 at *
    have HR := Lib.hid hr0
    clear hr0
    go_wp2_with fail
    refine M.out.mono ?_
    rintro e w1 ⟨rfl, h1⟩
    have C1 := Lib.hid (C0.out.trans h1)
    have b1 := h1.at_ B0.out (by simp)
    have z0 := cell_of b1 0
    have f0 := free_of b1 0
    simp only [List.getElem?_toArray, List.getElem?_cons_succ, List.getElem?_cons_zero] at z0
    have B1 := Lib.hid b1
    clear h1 M b1
    go_wp2
    have Z : (w1.setCell ⟨r0, 0, none⟩ (.bool false)).cell? ⟨r0, 0, none⟩ = some (.bool false) := by
      have p := cell_of (heap_setCell_same w1 r0 0 _ _ (.bool false) B1.out) 0
      simpa using p
    refine bodyPost_ret (within_result _ _ r0 _ rfl Z) rfl ?_
    exact ⟨rfl, C1.out.setCell (.inr (Nat.le_of_eq HR.out)) _⟩
  have eE : withinE xs ys = decide (ys.foldl withoutP xs = []) := by unfold withinE; rw [decide_eq_true hk]; rfl
  rw [decide_eq_true hk] at M
  rw [eE]
  obtain ⟨wa, la⟩ := wf_of_chk hk.1
  obtain ⟨wb, lb⟩ := wf_of_chk hk.2
  have WA := Lib.hid wa
  have WB := Lib.hid wb
  have LL := Lib.hid (show xs.length + ys.length ≤ 10000 by omega)
  generalize hRR : decide (ys.foldl withoutP xs = []) = RR
  have HRR := Lib.hid hRR
  clear hRR hk wa wb la lb eE
  refine (callsIn_wide (n := 6)).1 ?_
  refine callsIn_of_wp_marks Tryz.func110 rfl trivial ?_ rfl
  simp only [Tryz.ntmps110, List.size_toArray, List.length_cons, List.length_nil, Nat.reduceAdd, Nat.reduceSub, Array.replicate_succ, Array.replicate_zero, List.push_toArray, List.append_toArray, List.nil_append, List.cons_append]
  obtain ⟨r0, hr0⟩ : ∃ r, w.heap.size = r := ⟨_, rfl⟩
  have HR := Lib.hid hr0
  rw [hr0] at B0 LR
  clear hr0
  have OVER := Lib.hid (fun (w1 : World) (h1 : Chg [] w0 w1) => over_anyw w1 A c xs B d ys 151 (oldB xs A ++ oldB ys B) (H.out.chg h1 (by simp)) HC.out (HO.out.imp id (fun q a ha => Nat.lt_of_lt_of_le (q a ha) (Nat.le_trans C0.out.size h1.size))) (H'.out.chg h1 (by simp)) HD.out (HO'.out.imp id (fun q a ha => Nat.lt_of_lt_of_le (q a ha) (Nat.le_trans C0.out.size h1.size))) ((oldB_in xs A).imp id (fun q a ha => List.mem_append_left _ (q a ha))) ((oldB_in ys B).imp id (fun q a ha => List.mem_append_right _ (q a ha))) (fun z hz => by
    have s1 := C0.out.size
    have s2 := h1.size
    rcases List.mem_append.1 hz with e | e
    · obtain ⟨ne, y, hy, rfl⟩ := oldB_of e
      have := HO.out.resolve_left ne y hy; omega
    · obtain ⟨ne, y, hy, rfl⟩ := oldB_of e
      have := HO'.out.resolve_left ne y hy; omega))
  have BX : Hid (∀ z ∈ oldB xs A ++ oldB ys B, z < r0) := Lib.hid (fun z hz => by
    have := HR.out
    rcases List.mem_append.1 hz with e | e
    · obtain ⟨ne, y, hy, rfl⟩ := oldB_of e
      have := HO.out.resolve_left ne y hy; omega
    · obtain ⟨ne, y, hy, rfl⟩ := oldB_of e
      have := HO'.out.resolve_left ne y hy; omega)
  gi_wp2_with (refine ⟨trivial, ?_⟩; first | (gi_at_call 149; rw [← W0.out]; refine (callsIn_wide.2 M.out).mono ?_; rintro e w1 ⟨rfl, h1⟩; have C1 := Lib.hid h1; clear h1) | (gi_at_call 150; refine (callsIn_wide.2 (OVER.out _ C1.out)).mono ?_; rintro e w2 ⟨g, rfl, h1, h2, h3⟩; have SW := Lib.hid h1; have GG := Lib.hid h2; have C2 := Lib.hid (C1.out.trans h3); clear h1 h2 h3))
  rw [HR.out]
  have gr : r0 < g := by have := LR.out; have := C1.out.size; have := GG.out; omega
  have LG := Lib.hid (show g < w2.heap.size from by obtain ⟨_, _, _, _, q⟩ := SW.out; exact lt_of_heap q.hg)
  have R2 := Lib.hid (C2.out.at_ B0.out (by simp))
  have lr := lt_of_heap R2.out
  have lg := LG.out
  have GR := Lib.hid gr
  refine range_bound (gf := 152) (bd := #[.pointer (some ⟨g, 0, none⟩)]) (lb := #[]) rfl (enters_of Tryz.func152 (by kernel_rfl) rfl) (encs := fun x : Sp => #[.agg #[.int .i64 x.1, .int .i64 x.2.1, .int .i64 x.2.2]]) (n₁ := w2.heap.size) (Nat.le_refl _)
    (S := fun pre => SwInv kF xs ys [] [] pre) (Sp := fun _ => True) (Ex := fun pre x _ => B3 x ∧ (∀ y ∈ pre, Le y x) ∧ pre.length < potP xs ys ∧ ∀ n s, InS x n s → kF (memb xs n s) (memb ys n s) = true) (Bd := fun _ => True) (Si := [g]) (T := [r0]) ?si ?seq (fun _ => rfl)
    (fun pre W => pre = [] ∧ W.heap[r0]? = some (.cells #[.bool false] 4 (0, 0)) ∧ Chg [g] w2 W)
    (fun c pre W => c = .ret ∧ ys.foldl withoutP xs ≠ [] ∧ W.heap[r0]? = some (.cells #[.bool false] 4 (0, 0)) ∧ Chg [g, r0] w2 W)
    ?keep ?keepx ?kl ?kxl ?bd ⟨rfl, R2.out, Chg.refl _ _⟩ ?elem
    (fun x => { tmps := #[.slice A xs.length c, .slice B ys.length d, undef, undef, .pointer (some ⟨r0, 0, none⟩), .slice A xs.length c, .slice B ys.length d, .bool true, .bool false, .slice A xs.length c, .slice B ys.length d, .pointer (some ⟨g, 0, none⟩), .func (.func 152) #[.pointer (some ⟨g, 0, none⟩)] #[], .agg #[.int .i64 x.1, .int .i64 x.2.1, .int .i64 x.2.2]], defers := [] }) ?assign ?body ?done ?stop
  case si => intro x hx; simp at hx; omega
  case seq =>
    intro l' J Jx W hW hJ hJx hJb hY h0
    have hs2 := hW.size
    have sw : SwP W g (oldB xs A ++ oldB ys B) xs ys 151 := SW.out.chg (Chg.ofBelow hW (Nat.le_refl _) []) (by simp) (by simp)
    refine (kept_first 4 l' w2.heap.size g [r0] (oldB xs A ++ oldB ys B) xs ys J Jx W ⟨by omega, by simp; omega⟩ (fun z hz => by have := BX.out z hz; simp; omega) (by omega) hJ hY sw WA.out WB.out h0).mono ?_
    rintro e W' ⟨h1, h2 | ⟨pre, h2⟩⟩
    · exact ⟨h1, .inl h2⟩
    · exact ⟨h1, .inr ⟨pre, trivial, h2⟩⟩
  case keep =>
    rintro pre A' B' ⟨hp, e1, hC⟩ hb
    exact ⟨hp, hb.at_ e1 (by simp; omega), hC.trans hb⟩
  case keepx =>
    rintro c pre A' B' ⟨hc, hp, e1, hC⟩ hb
    exact ⟨hc, hp, hb.at_ e1 (by simp; omega), hC.trans (hb.mono (by simp))⟩
  case kl =>
    rintro pre W l o o' hl ho hll ⟨hp, e1, hC⟩
    exact ⟨hp, (World.putObj_heap_other (by omega)).trans e1, hC.putl (by omega)⟩
  case kxl =>
    rintro c pre W l o o' hl ho hll ⟨hc, hp, e1, hC⟩
    exact ⟨hc, hp, (World.putObj_heap_other (by omega)).trans e1, hC.putl (by omega)⟩
  case bd => exact fun _ _ _ => trivial
  case elem => rintro pre x W l o o' hl ho hx; exact hx
  case assign =>
    intro l x W K hK
    clear lg lr gr
    gi_wp2
    have ez : (#[13].zip #[Value.agg #[Value.int IntKind.i64 x.1, Value.int IntKind.i64 x.2.1, Value.int IntKind.i64 x.2.2]] : Array (Nat × Value)) = #[(13, Value.agg #[Value.int IntKind.i64 x.1, Value.int IntKind.i64 x.2.1, Value.int IntKind.i64 x.2.2])] := by simp [List.zip_toArray]
    rw [ez]
    simpa using hK
  case body =>
    rintro l' pre x W ⟨hp, e1, hC⟩ ⟨hx, hle, hcnt, hk⟩
    have NE := Lib.hid (minus_one WA.out WB.out hx hk)
    have E1 := Lib.hid e1
    have HC1 := Lib.hid hC
    have z0 := cell_of e1 0
    have f0 := free_of e1 0
    simp only [List.getElem?_toArray, List.getElem?_cons_zero] at z0
    clear hp e1 hC hx hle hcnt hk lg lr gr
    gi_wp2
    exact ⟨KeepsOthers.setCell _ _ _, rfl, NE.out, by simpa using heap_setCell_same W r0 0 _ _ (.bool false) E1.out, (HC1.out.mono (by simp)).setCell (p := ⟨r0, 0, none⟩) (.inl (by simp)) _⟩
  case done =>
    rintro D zs W hD hS ⟨rfl, e1, hC⟩ hK
    have HE : Hid (RR = true) := Lib.hid (by rw [← HRR.out]; exact decide_eq_true (minus_eq WA.out WB.out hS).symm)
    have E1 := Lib.hid e1
    have HC1 := Lib.hid hC
    have z0 := cell_of e1 0
    have f0 := free_of e1 0
    simp only [List.getElem?_toArray, List.getElem?_cons_zero] at z0
    clear hS e1 hC lg lr gr
    gi_wp2
    have ne : D ≠ r0 := by have := lt_of_heap R2.out; omega
    have gw : w.heap.size ≤ g := by have := HR.out; have := GR.out; omega
    have dw : w.heap.size ≤ D := Nat.le_trans (C0.out.trans C2.out).size hD
    have Z : ∀ o, ((W.setCell ⟨r0, 0, none⟩ (.bool true)).putObj D o).cell? ⟨r0, 0, none⟩ = some (.bool true) := fun o => by
      have p := cell_of ((World.putObj_heap_other (o := o) (fun e => ne e.symm)).trans (heap_setCell_same W r0 0 _ _ (.bool true) E1.out)) 0
      simpa using p
    refine ⟨by simp, .inl ⟨_, _, rfl, run_takeDeferred ((heap_setCell_other W ⟨r0, 0, none⟩ D _ ne).trans hK), ?_⟩⟩
    exact ⟨_, within_result _ _ r0 _ rfl (Z _), by rw [HE.out], (((C0.out.trans C2.out).trans' HC1.out (fun z hz => by simp at hz; subst hz; exact .inr gw)).setCell (p := ⟨r0, 0, none⟩) (.inr (Nat.le_of_eq HR.out)) (.bool true)).putl dw⟩
  case stop =>
    rintro D c zs W hD _ ⟨rfl, hne, e1, hC⟩ hK
    have HE : Hid (RR = false) := Lib.hid (by rw [← HRR.out]; exact decide_eq_false hne)
    have E1 := Lib.hid e1
    have HC1 := Lib.hid hC
    have z0 := cell_of e1 0
    simp only [List.getElem?_toArray, List.getElem?_cons_zero] at z0
    clear hne e1 hC lg lr gr
    gi_wp2
    have ne : D ≠ r0 := by have := lt_of_heap R2.out; omega
    have gw : w.heap.size ≤ g := by have := HR.out; have := GR.out; omega
    have dw : w.heap.size ≤ D := Nat.le_trans (C0.out.trans C2.out).size hD
    have Z : ∀ o, ((W).putObj D o).cell? ⟨r0, 0, none⟩ = some (.bool false) := fun o => by
      have p := cell_of ((World.putObj_heap_other (o := o) (fun e => ne e.symm)).trans (E1.out)) 0
      simpa using p
    refine ⟨by simp, .inl ⟨_, _, rfl, run_takeDeferred (hK), ?_⟩⟩
    exact ⟨_, within_result _ _ r0 _ rfl (Z _), by rw [HE.out], ((C0.out.trans C2.out).trans' HC1.out (fun z hz => by simp at hz; rcases hz with rfl | rfl; exact .inr gw; exact .inr (Nat.le_of_eq HR.out))).putl dw⟩
end
section
open Go.RowKit Go.Lib
set_option linter.unusedSimpArgs false
set_option linter.unusedVariables false


/-- A slice that may be handed in: an empty one may lie anywhere. -/
def FitW (w : World) (A : Option Addr) (n c : Nat) : Prop := n ≤ c ∧ c ≤ maxLen ∧ (n = 0 ∨ ∀ a, A = some a → a.block < w.heap.size)
theorem FitW.chg {S : List Nat} {w w' : World} {A : Option Addr} {n c : Nat} (h : FitW w A n c) (hc : Chg S w w') : FitW w' A n c := ⟨h.1, h.2.1, h.2.2.imp id (fun q a ha => Nat.lt_of_lt_of_le (q a ha) hc.size)⟩
def FitE (w : World) (xs : List EvT) : Prop := ∀ x ∈ xs, FitW w x.B x.bl x.bc
theorem FitE.chg {S : List Nat} {w w' : World} {xs : List EvT} (h : FitE w xs) (hc : Chg S w w') : FitE w' xs := fun x hx => (h x hx).chg hc
/-- Those of one span bring along what is ahead of them. -/
def brings1 (m : List EvP) (e : EvP) (s : Sp) : Bool := m.all (fun x => !(decide (InS s x.n x.s)) || withinE x.q e.q)
theorem brings_all (m : List EvP) (e : EvP) : bringsE m e = e.q.all (brings1 m e) := rfl
theorem brings1_no {m : List EvP} {e : EvP} {s : Sp} {i : Nat} {x : EvP} (hx : m[i]? = some x) (hi : InS s x.n x.s) (hw : withinE x.q e.q = false) : brings1 m e s = false := by
  rcases q : brings1 m e s with _ | _
  · rfl
  · have := List.all_eq_true.1 q x (List.mem_of_getElem? hx)
    rw [decide_eq_true hi, hw] at this
    exact absurd this (by decide)
theorem brings_no {m : List EvP} {e : EvP} {k : Nat} {s : Sp} (hs : e.q[k]? = some s) (h : brings1 m e s = false) : bringsE m e = false := by
  rcases q : bringsE m e with _ | _
  · rfl
  · rw [brings_all] at q
    have := List.all_eq_true.1 q s (List.mem_of_getElem? hs)
    rw [h] at this
    exact absurd this (by decide)
/-- From the first one of a span on, as long as they are of it. -/
theorem brings1_yes {w : World} {xs : List EvT} {es : List EvP} {e : EvP} {s : Sp} {i0 i : Nat} (hr : EvsR w xs es) (hu : UpE xs) (lo : LoE xs s.1 s.2.1 i0) (hi : HiE xs s.1 s.2.1 i0) (h0 : i0 ≤ i)
    (hd : ∀ (p : Nat) (x : EvP), i0 ≤ p → p < i → es[p]? = some x → withinE x.q e.q = true) (hs : ∀ x, xs[i]? = some x → ¬ (x.n = s.1 ∧ x.s ≤ s.2.2)) : brings1 es e s = true := by
  unfold brings1
  rw [List.all_eq_true]
  intro y hy
  by_cases q : InS s y.n y.s
  · obtain ⟨p, hp, rfl⟩ := List.getElem_of_mem hy
    have hpe := List.getElem?_eq_getElem hp
    obtain ⟨x, f, ex, ef, rx⟩ := hr.at_ (show p < xs.length by rw [hr.1]; exact hp)
    rw [hpe] at ef
    cases ef
    rw [← rx.n, ← rx.s] at q
    unfold InS at q
    have h1 : i0 ≤ p := by
      by_cases c : p < i0
      · have := lo p x ex c
        unfold LtD at this
        omega
      · omega
    have h2 : p < i := by
      by_cases c : p < i
      · exact c
      · exfalso
        have hi2 : i < xs.length := by have := (List.getElem?_eq_some_iff.1 ex).1; omega
        have hz := List.getElem?_eq_getElem hi2
        have a := hs _ hz
        have b := hi i _ hz h0
        unfold LtD at b
        by_cases d : p = i
        · subst d
          rw [hz] at ex
          cases ex
          omega
        · have u := up_at hu hz ex (by omega)
          unfold LtD at u
          omega
    rw [hd p _ h1 h2 hpe, Bool.or_true]
  · rw [decide_eq_false q]
    rfl
theorem all_take_succ {α : Type} {p : α → Bool} {l : List α} {k : Nat} {x : α} (h : l[k]? = some x) : (l.take (k + 1)).all p = ((l.take k).all p && p x) := by
  rw [List.take_add_one, h]
  simp
set_option maxRecDepth 100000 in
set_option maxHeartbeats 16000000 in
theorem evbrings_any (w : World) (A : Option Addr) (c : Nat) (xs : List EvT) (es : List EvP) (y : EvT) (f : EvP) (h : RdK evTy w A xs.length xs) (hx : EvsR w xs es) (hu : UpE xs) (hf : FitE w xs) (hy : EvR w y f) (fy : FitW w y.B y.bl y.bc) (hn : xs.length ≤ 100000) (hs : (∀ e ∈ es, e.q.length ≤ 140737488351232) ∧ f.q.length ≤ 140737488351232) :
    Calls Tryz.prog 73 #[.slice A xs.length c, .agg #[.int .i64 y.n, .int .i64 y.s, .string y.p, .int .i64 y.k, .int .i64 y.m, .slice y.A y.l y.c, .slice y.B y.bl y.bc]] w fun r w' => r = .returned (.bool (bringsE es f)) ∧ Chg [] w w' := by

  have HA := Lib.hid h
  have HX := Lib.hid hx
  have HU := Lib.hid hu
  have HF := Lib.hid hf
  have HY := Lib.hid hy
  have FY := Lib.hid fy
  have HN := Lib.hid hn
  have HS := Lib.hid hs
  clear h hx hu hf hy fy hn hs
  obtain ⟨w1, hw1, c1, b1⟩ := news1 w (.cells #[.int .i64 y.n, .int .i64 y.s, .string y.p, .int .i64 y.k, .int .i64 y.m, .slice y.A y.l y.c, .slice y.B y.bl y.bc] 29)
  have W1 := Lib.hid hw1
  have B1 := Lib.hid b1
  have C1 := Lib.hid c1
  clear hw1 c1 b1
  go_enter Tryz.func73, Tryz.ntmps73
  go_upto_region 1 with fail
  rw [← W1.out]
  generalize w.heap.size = g3 at *
  clear W1
  have y0 := cell_of B1.out 0
  have y1 := cell_of B1.out 1
  have y2 := cell_of B1.out 2
  have y3 := cell_of B1.out 3
  have y4 := cell_of B1.out 4
  have y5 := cell_of B1.out 5
  have y6 := cell_of B1.out 6
  simp only [List.getElem?_toArray, List.getElem?_cons_succ, List.getElem?_cons_zero] at y0 y1 y2 y3 y4 y5 y6
  go_wp2
  clear y0 y1 y2 y3 y4 y5 y6
  have YBL : Hid (y.bl = f.q.length) := Lib.hid HY.out.bl
  rw [YBL.out]
  go_loopw [12] (fun v12 wr => ∃ (k : Nat), k ≤ f.q.length ∧ v12 = .int .i64 k ∧ Hid ((f.q.take k).all (brings1 es f) = true) ∧ Hid (Chg [] w1 wr)) (fun v12 _ => f.q.length - (RowKit.intOf v12).toNat)
  case atStart => exact ⟨0, Nat.zero_le _, rfl, Lib.hid rfl, Chg.refl _ _⟩
  case round =>
    obtain ⟨k, hk, rfl, BK, PC⟩ := hrel
    have j0 : (0 : Int) ≤ (k : Int) := by omega
    by_cases hlt : k < f.q.length
    · have j1 : (k : Int) < (f.q.length : Int) := by omega
      have j3 : IntKind.i64.wrap ((k : Int) + 1) = (k : Int) + 1 := IntWalk.i64_in _ (by have := HS.out.2; omega)
      obtain ⟨s, hs⟩ : ∃ s, f.q[k]? = some s := ⟨_, List.getElem?_eq_getElem hlt⟩
      have RQ := (HY.out.chg (C1.out.trans PC.out)).B
      rw [YBL.out] at RQ
      obtain ⟨g4, o4, eB, _⟩ := RQ.line (by omega)
      obtain ⟨q0, q1, q2⟩ := spanCells (eB ▸ RQ) hs
      have EB := Lib.hid eB
      rw [EB.out]
      have SS := Lib.hid hs
      clear RQ hs eB
      obtain ⟨w5, hw5, c5, b5⟩ := news1 wr (.cells #[.int .i64 s.1, .int .i64 s.2.1, .int .i64 s.2.2] 95)
      have W5 := Lib.hid hw5
      have B5 := Lib.hid b5
      replace PC := Lib.hid (PC.out.trans c5)
      clear hw5 c5 b5
      go_upto_region 4 with fail
      rw [← W5.out]
      generalize wr.heap.size = g6 at *
      clear W5 q0 q1 q2
      have y0 := cell_of B5.out 0
      have y1 := cell_of B5.out 1
      have y2 := cell_of B5.out 2
      simp only [List.getElem?_toArray, List.getElem?_cons_succ, List.getElem?_cons_zero] at y0 y1 y2
      go_wp2_with fail
      clear y0 y1 y2
      refine (binev_any w5 A c xs s.1 s.2.1 (HA.out.chg (C1.out.trans PC.out) (by simp)) HU.out HN.out).mono ?_
      rintro r w6 ⟨i0, hi0, lo, hi, rfl, hc⟩
      have LO := Lib.hid lo
      have HI := Lib.hid hi
      replace B5 := Lib.hid (hc.at_ B5.out (by simp))
      replace PC := Lib.hid (PC.out.trans hc)
      clear lo hi hc
      have PC6 := PC
      go_wp2
      go_loopw [7] (fun v7 wr => ∃ (i : Nat), i0 ≤ i ∧ i ≤ xs.length ∧ v7 = .int .i64 i ∧ Hid (∀ (p : Nat) (x : EvP), i0 ≤ p → p < i → es[p]? = some x → withinE x.q f.q = true) ∧ Hid (Chg [] w6 wr)) (fun v7 _ => xs.length - (RowKit.intOf v7).toNat)
      case atStart => exact ⟨i0, Nat.le_refl _, hi0, rfl, Lib.hid (fun p x a b => absurd b (by omega)), Chg.refl _ _⟩
      case round =>
        obtain ⟨i, h0, hi, rfl, DN, QC⟩ := hrel
        have l0 : (0 : Int) ≤ (i : Int) := by omega
        have B7 := Lib.hid (QC.out.at_ B5.out (by simp))
        have T7 := Lib.hid ((C1.out.trans PC.out).trans QC.out)
        have BY := Lib.hid ((PC.out.trans QC.out).at_ B1.out (by simp))
        have b2 := cell_of B7.out 2
        have b0 := cell_of B7.out 0
        simp only [List.getElem?_toArray, List.getElem?_cons_succ, List.getElem?_cons_zero] at b0 b2
        by_cases hil : i < xs.length
        rotate_left
        · have l1 : decide ((i : Int) < (xs.length : Int)) = false := by simp; omega
          have l2 : decide (i < xs.length) = false := by simp; omega
          have l3 : ¬ (i : Int) < (xs.length : Int) := by omega
          have YES : Hid (brings1 es f s = true) := Lib.hid (brings1_yes HX.out HU.out LO.out HI.out h0 DN.out (fun x hx => absurd (List.getElem?_eq_some_iff.1 hx).1 hil))
          go_upto_region 5 with fail
          go_quiet (fail)
          have hq := (Chg.refl [] wr).drewN nq
          generalize wr.drewN nq = w8 at *
          replace T7 := Lib.hid ((PC.out.trans QC.out).trans hq)
          clear hq b0 b2
          have BK1 : Hid ((f.q.take (k + 1)).all (brings1 es f) = true) := Lib.hid (by rw [all_take_succ SS.out, BK.out, YES.out]; rfl)
          go_wp2
          go_round
          case rel => exact ⟨k + 1, by omega, by go_num, BK1, T7⟩
          case measure => simp [RowKit.intOf]; omega
        have l1 : decide ((i : Int) < (xs.length : Int)) = true := by simp; omega
        have l2 : decide (i < xs.length) = true := by simp; omega
        have l4 : (i : Int) < (xs.length : Int) := by omega
        obtain ⟨x, e, ex, ee, rx⟩ := HX.out.at_ hil
        obtain ⟨g8, o8, eA, _⟩ := HA.out.line (by omega)
        subst eA
        obtain ⟨z0, z1, z2, z3, z4, z5, z6⟩ := evCells (HA.out.chg T7.out (by simp)) ex
        have EX := Lib.hid ex
        have EE := Lib.hid ee
        have RX := Lib.hid rx
        clear ex ee rx
        by_cases f1 : x.n = s.1
        rotate_left
        · skip
          have YES : Hid (brings1 es f s = true) := Lib.hid (brings1_yes HX.out HU.out LO.out HI.out h0 DN.out (fun x2 hx => by rw [EX.out] at hx; cases hx; exact fun q => f1 q.1))
          have f2 : ((x.n == s.1) : Bool) = false := by simpa using f1
          go_upto_region 5 with fail
          go_quiet (fail)
          have hq := (Chg.refl [] wr).drewN nq
          generalize wr.drewN nq = w8 at *
          have TT := Lib.hid ((PC.out.trans QC.out).trans hq)
          clear hq b0 b2 z0 z1 z2 z3 z4 z5 z6
          have BK1 : Hid ((f.q.take (k + 1)).all (brings1 es f) = true) := Lib.hid (by rw [all_take_succ SS.out, BK.out, YES.out]; rfl)
          go_wp2
          go_round
          case rel => exact ⟨k + 1, by omega, by go_num, BK1, TT⟩
          case measure => simp [RowKit.intOf]; omega
        have f2 : ((x.n == s.1) : Bool) = true := by simpa using f1
        by_cases f3 : x.s ≤ s.2.2
        rotate_left
        · skip
          have YES : Hid (brings1 es f s = true) := Lib.hid (brings1_yes HX.out HU.out LO.out HI.out h0 DN.out (fun x2 hx => by rw [EX.out] at hx; cases hx; exact fun q => f3 q.2))
          go_upto_region 5 with fail
          go_quiet (fail)
          have hq := (Chg.refl [] wr).drewN nq
          generalize wr.drewN nq = w8 at *
          have TT := Lib.hid ((PC.out.trans QC.out).trans hq)
          clear hq b0 b2 z0 z1 z2 z3 z4 z5 z6
          have BK1 : Hid ((f.q.take (k + 1)).all (brings1 es f) = true) := Lib.hid (by rw [all_take_succ SS.out, BK.out, YES.out]; rfl)
          go_wp2
          go_round
          case rel => exact ⟨k + 1, by omega, by go_num, BK1, TT⟩
          case measure => simp [RowKit.intOf]; omega
        have IN : Hid (InS s e.n e.s) := Lib.hid (by
          have a := HI.out i x EX.out h0
          rw [← RX.out.n, ← RX.out.s]
          unfold LtD at a
          unfold InS
          omega)
        go_upto_region 5 with fail
        go_quiet (fail)
        have hq := (Chg.refl [] wr).drewN nq
        generalize wr.drewN nq = w8 at *
        have TT := Lib.hid (T7.out.trans hq)
        have QC8 := Lib.hid (QC.out.trans hq)
        have by8 := hq.at_ BY.out (by simp)
        have BY8 := Lib.hid by8
        clear hq by8 b0 b2 z0 z1 z2 z3 z4 z5 z6 f1 f2 f3
        have z6 := (evCells (HA.out.chg TT.out (by simp)) EX.out).2.2.2.2.2.2
        have y6 := cell_of BY8.out 6
        simp only [List.getElem?_toArray, List.getElem?_cons_succ, List.getElem?_cons_zero] at y6
        go_upto_region 7 with fail
        refine wp_region_held_drew (S := fun w' => w'.cell? ⟨g8, o8 + i * 7 + 6, none⟩ = some (.slice x.B x.bl x.bc) ∧ w'.cell? ⟨g3, 6, none⟩ = some (.slice y.B y.bl y.bc)) (by kernel_rfl) ⟨z6, y6⟩ (fun hHeld => ?_)
        have CD := Lib.hid (Chg.refl [] w8).drew
        have HH := Lib.hid (fun (w' : World) (hc : Chg [] w8.drew w') => (⟨(CD.out.trans hc).cell z6 (by simp), (CD.out.trans hc).cell y6 (by simp)⟩ : w'.cell? ⟨g8, o8 + i * 7 + 6, none⟩ = some (.slice x.B x.bl x.bc) ∧ w'.cell? ⟨g3, 6, none⟩ = some (.slice y.B y.bl y.bc)))
        clear z6 y6
        replace TT := Lib.hid (TT.out.trans CD.out)
        replace QC8 := Lib.hid (QC8.out.trans CD.out)
        clear CD
        have XBL : Hid (x.bl = e.q.length) := Lib.hid RX.out.bl
        have R1 : Hid (RdK spanTy w8.drew x.B e.q.length e.q) := Lib.hid (by have := (RX.out.chg TT.out).B; rwa [XBL.out] at this)
        have R2 : Hid (RdK spanTy w8.drew y.B f.q.length f.q) := Lib.hid (by have := (HY.out.chg TT.out).B; rwa [YBL.out] at this)
        have F1 : Hid ((e.q.length ≤ x.bc ∧ x.bc ≤ maxLen) ∧ (e.q = [] ∨ ∀ a, x.B = some a → a.block < w8.drew.heap.size)) := Lib.hid (by have q := (HF.out x (List.mem_of_getElem? EX.out)).chg TT.out; rw [XBL.out] at q; exact ⟨⟨q.1, q.2.1⟩, q.2.2.imp List.eq_nil_of_length_eq_zero id⟩)
        have F2 : Hid ((f.q.length ≤ y.bc ∧ y.bc ≤ maxLen) ∧ (f.q = [] ∨ ∀ a, y.B = some a → a.block < w8.drew.heap.size)) := Lib.hid (by have q := FY.out.chg TT.out; rw [YBL.out] at q; exact ⟨⟨q.1, q.2.1⟩, q.2.2.imp List.eq_nil_of_length_eq_zero id⟩)
        have SL : Hid (e.q.length ≤ 140737488351232 ∧ f.q.length ≤ 140737488351232) := Lib.hid ⟨HS.out.1 e (List.mem_of_getElem? EE.out), HS.out.2⟩
        generalize w8.drew = wd at *
        refine sy 0 54 rfl rfl ?_
        try simp only [Act.put, sA, s0, s1]
        refine sy 1 55 rfl rfl ?_
        try simp only [Act.put, sA, s0, s1]
        refine sy 2 56 rfl rfl ?_
        try simp only [Act.put, sA, s0, s1]
        refine sy 3 57 rfl rfl ?_
        try simp only [Act.put, sA, s0, s1]
        refine sy 4 58 rfl rfl ?_ (hy := by (intro w hSw; (try dsimp only at hSw); obtain ⟨q0, q1⟩ := hSw; go_simp; try with_reducible rfl))
        try simp only [Act.put, sA, s0, s1]
        refine sy 5 59 rfl rfl ?_
        try simp only [Act.put, sA, s0, s1]
        refine sy 6 60 rfl rfl ?_ (hy := by (intro w hSw; (try dsimp only at hSw); obtain ⟨q0, q1⟩ := hSw; go_simp; try with_reducible rfl))
        try simp only [Act.put, sA, s0, s1]
        refine wpAnyH_ready (rs := [7]) (by kernel_rfl) (by simp) ?_
        refine AllReadyH.cons rfl (fun K hK => ?_) AllReadyH.nil
        replace hK := Lib.hid hK
        go_simp
        rw [XBL.out, YBL.out]
        refine (within_anyw wd x.B x.bc e.q y.B y.bc f.q R1.out F1.out.1 F1.out.2 R2.out F2.out.1 F2.out.2 SL.out.1 SL.out.2).mono ?_
        rintro r w9 ⟨rfl, h9⟩
        have C9 := Lib.hid h9
        clear h9 hHeld
        refine hK.out _ _ (HH.out w9 C9.out) (fun hHeld => ?_)
        clear hK K
        try simp only [Act.put, sA, s0, s1]
        refine sy 8 62 rfl rfl ?_
        try simp only [Act.put, sA, s0, s1]
        refine wpAnyH_done (by kernel_rfl) ?_ _
        clear hHeld HH R1 R2 F1 F2
        replace QC8 := Lib.hid (QC8.out.trans C9.out)
        replace TT := Lib.hid (TT.out.trans C9.out)
        clear C9
        have l9 : IntKind.i64.wrap ((i : Int) + 1) = (i : Int) + 1 := IntWalk.i64_in _ (by have := HN.out; omega)
        rcases hb : withinE e.q f.q with _ | _
        · have NO : Hid (bringsE es f = false) := Lib.hid (brings_no SS.out (brings1_no EE.out IN.out hb))
          clear hb
          go_wp2
          go_ret
          rw [NO.out]
          exact ⟨rfl, TT.out⟩
        · have DN1 : Hid (∀ (p : Nat) (x : EvP), i0 ≤ p → p < i + 1 → es[p]? = some x → withinE x.q f.q = true) := Lib.hid (fun p x2 a b hx => by
            by_cases q : p = i
            · subst q; rw [EE.out] at hx; cases hx; exact hb
            · exact DN.out p x2 a (by omega) hx)
          clear hb
          go_wp2
          go_round
          case rel => exact ⟨i + 1, by omega, by omega, by go_num, DN1, QC8⟩
          case measure => simp [RowKit.intOf]; omega
    · obtain rfl : k = f.q.length := by omega
      have j1 : ¬ (f.q.length : Int) < (f.q.length : Int) := by omega
      rw [List.take_length] at BK
      have YES : Hid (bringsE es f = true) := Lib.hid (by rw [brings_all]; exact BK.out)
      go_wp2
      go_ret
      rw [YES.out]
      exact ⟨rfl, C1.out.trans PC.out⟩
end
section
open Go.RowKit Go.Lib
set_option linter.unusedSimpArgs false
set_option linter.unusedVariables false


theorem alls_bound (m : Nat) : ∀ (es : List EvP), (∀ e ∈ es, e.q.length ≤ m) → (allsE es).length ≤ es.length * (m + 1)
  | [], _ => by simp [allsE]
  | e :: es, h => by
    have a := alls_bound m es (fun f hf => h f (by simp [hf]))
    have b := h e (by simp)
    unfold allsE at a ⊢
    rw [List.flatMap_cons, List.length_append, List.length_cons, List.length_cons, Nat.succ_mul]
    omega
theorem fit_args {w : World} {xs : List EvT} {es : List EvP} (hr : EvsR w xs es) (hz : ∀ (i : Nat) (x : EvT) (e : EvP), xs[i]? = some x → es[i]? = some e → EvZ x e) : FitE w xs := fun x hx => by
  obtain ⟨i, hi⟩ := List.getElem?_of_mem hx
  obtain ⟨x2, e, ex, ee, rx⟩ := hr.at_ (show i < xs.length from (List.getElem?_eq_some_iff.1 hi).1)
  rw [hi] at ex
  cases ex
  have z := (hz i x e hi ee).2.2.2.1
  refine ⟨z.2.2.1, z.2.2.2, ?_⟩
  by_cases h0 : x.bl = 0
  · exact .inl h0
  · obtain ⟨g, o, eA, hl⟩ := rx.B.line (by omega)
    exact .inr (fun a ha => by rw [eA] at ha; cases ha; exact hl)
theorem smallEvs {w : World} {xs : List EvT} {es : List EvP} {most : Nat} (hr : EvsR w xs es) (hl : longE xs most = false) : (∀ e ∈ es, EvSm e ∧ e.q.length ≤ 100 ∧ e.b.length ≤ 1200) ∧ xs.length ≤ most := by
  have sm := longE_no hl
  refine ⟨fun e he => ?_, sm.1⟩
  obtain ⟨i, hi, rfl⟩ := List.getElem_of_mem he
  obtain ⟨x, f, ex, ef, rx⟩ := hr.at_ (show i < xs.length by rw [hr.1]; exact hi)
  rw [List.getElem?_eq_getElem hi] at ef
  cases ef
  have q := sm.2 x (List.mem_of_getElem? ex)
  have a1 := rx.l
  have a2 := rx.bl
  have a3 := rx.p
  have a4 : x.p.size = es[i].p.length := by rw [a3, strOf_size]
  unfold bigE at q
  unfold EvSm
  omega
end
section
open Go.RowKit Go.Lib
set_option linter.unusedSimpArgs false
set_option linter.unusedVariables false


theorem closed_ok {es : List EvP} (h : closedE es = true) : okAll es = true ∧ es.Pairwise OkTwo := by
  unfold closedE at h
  rw [Bool.and_eq_true, decide_eq_true_iff] at h
  exact h
theorem ahead_iff {a b : EvP} (ha : chkEv a = 0) (hb : chkEv b = 0) : aheadP a b = true ↔ Mem b.q a.n a.s := by
  unfold aheadP
  rw [has_iff (chk_fine hb).1, decide_eq_true ha, decide_eq_true hb]
  simp
theorem last_in (node : Int) (xs : List Sp) : lastL node xs = 0 ∨ ∃ x ∈ xs, x.1 = node ∧ lastL node xs = x.2.2 := by
  have key : ∀ (l : List Sp) (k : Int), l.foldl (fun n x => if x.1 = node then x.2.2 else n) k = k ∨ ∃ x ∈ l, x.1 = node ∧ l.foldl (fun n x => if x.1 = node then x.2.2 else n) k = x.2.2 := by
    intro l
    induction l with
    | nil => intro k; exact .inl rfl
    | cons y l ih =>
      intro k
      rw [List.foldl_cons]
      by_cases e : y.1 = node
      · rw [if_pos e]
        rcases ih y.2.2 with q | ⟨x, hx, hn, hv⟩
        · exact .inr ⟨y, by simp, e, q⟩
        · exact .inr ⟨x, by simp [hx], hn, hv⟩
      · rw [if_neg e]
        rcases ih k with q | ⟨x, hx, hn, hv⟩
        · exact .inl q
        · exact .inr ⟨x, by simp [hx], hn, hv⟩
  exact key xs 0
/-- The past of closed events. -/
theorem past_mem {es : List EvP} (h : okAll es = true) (n s : Int) : Mem (tidyS (allsE es)) n s ↔ Mem (allsE es) n s := (tidy_norm (fun x hx => (alls_B3 h x hx).ok)).2 n s
theorem past_wf {es : List EvP} (h : okAll es = true) (hl : (allsE es).length ≤ 4000) : chkS (tidyS (allsE es)) = 0 := by
  have t := tidy_norm (l := allsE es) (fun x hx => (alls_B3 h x hx).ok)
  refine chk_of_wf (wf_sub t.1 (fun n s hm => ?_)) (by have := tidy_len (allsE es); omega)
  obtain ⟨x, hx, hi⟩ := (t.2 n s).1 hm
  have b := alls_B3 h x hx
  unfold B3 at b
  unfold InS at hi
  omega
theorem alls_own {es : List EvP} {a : EvP} (ha : a ∈ es) (hc : chkEv a = 0) : Mem (allsE es) a.n a.s :=
  ⟨ownS a, List.mem_flatMap.2 ⟨a, ha, by simp⟩, by unfold InS ownS; simp⟩
end
section
open Go.RowKit Go.Lib
set_option linter.unusedSimpArgs false
set_option linter.unusedVariables false

/-- An event that is made behind some: of a node that has none of theirs. -/
def nextG (es : List EvP) (node k : Int) (p : List UInt8) : EvP := ⟨node, 1, p, k, 0, [], tidyS (allsE es)⟩
theorem last_none {xs : List Sp} (h : WfC xs) {node : Int} (hn : ∀ x ∈ xs, x.1 ≠ node) : lastL node xs = 0 := by
  rcases last_in node xs with q | ⟨x, hx, e, _⟩
  · exact q
  · exact absurd e (hn x hx)
theorem nextG_chk {es : List EvP} {node k : Int} {p : List UInt8} (h : okAll es = true) (hl : (allsE es).length ≤ 4000) (h1 : 1 ≤ node) (h2 : node ≤ 200) (hn : ∀ x ∈ tidyS (allsE es), x.1 ≠ node) (hk : chkE k 0 0 = 0) (hp : checkL 6 12 p = true) : chkEv (nextG es node k p) = 0 := by
  have c := past_wf h hl
  have l0 := last_none (wf_of_chk c).1 hn
  refine chkEv_yes (fun i hi => ?_)
  match i, hi with
  | 0, _ => exact chkD_fine (by unfold FineD nextG; simp only; omega)
  | 1, _ => exact hp
  | 2, _ => exact hk
  | 3, _ => exact c
  | 4, _ =>
    show (if chkS (nextG es node k p).q = 0 then lastL (nextG es node k p).n (nextG es node k p).q else 0) < (nextG es node k p).s
    unfold nextG
    simp only [c, if_true, l0]
    decide
theorem nextG_ahead {es : List EvP} {node k : Int} {p : List UInt8} (h : okAll es = true) (hc : chkEv (nextG es node k p) = 0) {a : EvP} (ha : a ∈ es) : aheadP a (nextG es node k p) = true :=
  (ahead_iff (okAll_iff.1 h a ha) hc).2 ((past_mem h _ _).2 (alls_own ha (okAll_iff.1 h a ha)))
/-- It clashes with none of those. -/
theorem nextG_free {es : List EvP} {node k : Int} {p : List UInt8} (h : okAll es = true) (hc : chkEv (nextG es node k p) = 0) : es.filter (fun x => clashP x (nextG es node k p)) = [] := by
  rw [List.filter_eq_nil_iff]
  intro a ha
  rw [clash_no (nextG_ahead h hc ha)]
  decide
end
section
open Go.RowKit Go.Sort
set_option linter.unusedSimpArgs false
set_option linter.unusedVariables false

set_option maxHeartbeats 1000000 in
/-- compare, and the world behind it: new blocks, draws. -/
theorem dcompare_grow (w : World) (x y : Int × Int) :
    Calls Tryz.prog 66 #[.agg #[.int .i64 x.1, .int .i64 x.2], .agg #[.int .i64 y.1, .int .i64 y.2]] w fun e w' => e = .returned (.int .i64 (cmpD x.1 x.2 y.1 y.2)) ∧ ∃ q os, w' = grow (w.drewN q) os := by
  obtain ⟨a, s⟩ := x
  obtain ⟨b, t⟩ := y
  simp only
  obtain ⟨w0, hw0, c0, b0, b1⟩ := news2 w (.cells #[.int .i64 a, .int .i64 s] 23) (.cells #[.int .i64 b, .int .i64 t] 23)
  have k0 := cell_of b0 0
  have k1 := cell_of b0 1
  have k3 := cell_of b1 0
  have k4 := cell_of b1 1
  simp only [List.getElem?_toArray, List.getElem?_cons_succ, List.getElem?_cons_zero] at k0 k1 k3 k4
  have g0 := lt_of_heap b0
  have g1 := lt_of_heap b1
  have W0 := Lib.hid hw0
  have hgr : ∀ o, ∃ q os, (w0.alloc o).drew = grow (w.drewN q) os := fun o => by
    rw [hw0]
    exact ⟨1, #[(.cells #[.int .i64 a, .int .i64 s] 23), (.cells #[.int .i64 b, .int .i64 t] 23), o], by rw [alloc_eq_grow, alloc_eq_grow, alloc_eq_grow, grow_grow, grow_grow]; rfl⟩
  have GR := Lib.hid hgr
  clear hw0 c0 b0 b1 hgr
  unfold cmpD
  generalize hr : or2 (cmpI a b) (cmpI s t) = R
  have HR := Lib.hid hr
  clear hr
  go_enter Tryz.func66, Tryz.ntmps66
  go_wp2
  rw [← W0.out]
  have n1 := World.new_ne w0 ⟨w.heap.size, 0, none⟩ k0
  have n2 := World.new_ne w0 ⟨w.heap.size + 1, 0, none⟩ k3
  generalize w.heap.size + 1 = s1 at *
  generalize w.heap.size = s0 at *
  go_region_held3 (fun w' => w'.cell? ⟨s0, 0, none⟩ = some (.int .i64 a) ∧ w'.cell? ⟨s0, 1, none⟩ = some (.int .i64 s) ∧ w'.cell? ⟨s1, 0, none⟩ = some (.int .i64 b) ∧ w'.cell? ⟨s1, 1, none⟩ = some (.int .i64 t)) (first | exact ⟨k0, k1, k3, k4⟩ | go_keep)
    ((first
      | (go_at_call 106; (with_reducible refine (cmpint_any _ _ _).mono ?_); rintro e w1 ⟨rfl, rfl⟩)
      | (go_at_call 57; refine (or2_any _ w0.heap.size (cmpI a b) (cmpI s t) (show (w0.alloc _).drew.heap[_]? = _ from heap_alloc_new w0 _)).mono ?_; rintro e w1 ⟨rfl, rfl⟩)))
  all_goals
    go_wp2
    go_ret
    exact ⟨by first | rfl | (rw [← HR.out]; rfl), GR.out _⟩
def cmpDD (x y : Int × Int) : Int := cmpD x.1 x.2 y.1 y.2
theorem ltDD (x y : Int × Int) : ltOf cmpDD x y = decide (LtD x.1 x.2 y.1 y.2) := by
  unfold ltOf cmpDD
  exact decide_eq_decide.2 cmpD_lt
theorem swoD : SWO (ltOf cmpDD) where
  irrefl x := by rw [ltDD]; simp [LtD]
  trans x y z h1 h2 := by
    rw [ltDD, decide_eq_true_eq] at *
    unfold LtD at *
    omega
  ntrans x y z h1 h2 := by
    rw [ltDD, decide_eq_false_iff_not] at *
    unfold LtD at *
    omega
theorem totalD (x y : Int × Int) (h1 : ltOf cmpDD x y = false) (h2 : ltOf cmpDD y x = false) : x = y := by
  rw [ltDD, decide_eq_false_iff_not] at h1 h2
  unfold LtD at h1 h2
  refine Prod.ext ?_ ?_ <;> omega
/-- In order. -/
def sortL (xs : List (Int × Int)) : List (Int × Int) := xs.mergeSort fun x y => !(ltOf cmpDD) y x
theorem sortL_len (xs : List (Int × Int)) : (sortL xs).length = xs.length := List.length_mergeSort _
set_option maxHeartbeats 1000000 in
theorem sortfunc_some (w : World) (g c : Nat) (xs : List (Int × Int)) (h : OwnK dotTy w (some ⟨g, 0, none⟩) c xs) (hm : xs.length < 4611686018427387904) :
    Calls Tryz.prog 99 #[.slice (some ⟨g, 0, none⟩) xs.length c, .func (.func 66) #[] #[]] w fun e w' => e = .returned (.tuple #[]) ∧ OwnK dotTy w' (some ⟨g, 0, none⟩) c (sortL xs) ∧ Chg [g] w w' := by
  have hblk : g < w.heap.size := by
    rcases h.shape with ⟨h, _⟩ | ⟨g', h, hl⟩
    · cases h
    · cases h; exact hl
  have eg : ∀ args w, (callFunc 66 args).run Tryz.prog w = .ok (.enter 66 args) w := enters_of Tryz.func66 (by kernel_rfl) rfl
  have hcmp : CmpLays Tryz.prog 66 #[] dotTy.enc dotTy.k cmpDD g 0 xs.toArray.size w := fun m os dk _ x y => by
    have := dcompare_grow (sortWorldK dotTy.enc dotTy.k w g 0 m dk os) x y
    exact this
  have hcon := AnyQ.slices_SortFunc_total Tryz.llLaysD06 2 Tryz.isAgg23 Tryz.sizeOf23 dotTy.enc dotTy.klen dotTy.one cmpDD swoD 66 #[] g 0 c xs.toArray w eg hcmp h.holds hblk (by simpa using hm) totalD
  refine Calls.mono hcon ?_
  rintro e w' ⟨he, n, os, hw⟩
  refine ⟨he, ?_⟩
  rw [hw]
  exact h.sorted (ys := sortL xs) (sortL_len xs) n os
end
section
open Go.RowKit Go.Sort Go.Lib
set_option linter.unusedSimpArgs false
set_option linter.unusedVariables false

theorem RdK.none_nil {α : Type} {R : RowTy α} {w : World} {n : Nat} {xs : List α} (h : RdK R w none n xs) : xs = [] := by
  cases xs with
  | nil => rfl
  | cons y ys =>
    have : 0 < (R.flat (y :: ys)).length := by rw [R.flat_len, List.length_cons]; exact Nat.mul_pos (by omega) R.kpos
    obtain ⟨a, h, _⟩ := h.cells 0 _ (List.getElem?_eq_getElem this); cases h
set_option maxRecDepth 100000 in
set_option maxHeartbeats 1000000 in
theorem cloneDot_any (w : World) (A : Option Addr) (n c : Nat) (xs : List (Int × Int)) (h : RdK dotTy w A n xs) (hn : n * 400 ≤ 140737488355327) :
    Calls Tryz.prog 98 #[.slice A n c] w fun e w' => ∃ A' c', e = .returned (.slice A' n c') ∧ OwnK dotTy w' A' c' xs ∧ (∀ a, A' = some a → w.heap.size ≤ a.block) ∧ Chg [] w w' := by
  have heq := fun W => Lib.run_eql_slice_nil (P := Tryz.prog) W 43 23 A n c 0 0 Tryz.underlying43
  cases A with
  | none =>
    have hx := h.none_nil
    subst hx
    have hl : n = 0 := h.len.symm
    subst hl
    clear h
    go_enter Tryz.func98, Tryz.ntmps98
    go_wp2
    go_ret
    exact ⟨none, 0, rfl, OwnK.none_ _, by simp, Chg.refl _ _⟩
  | some ad =>
    obtain ⟨w1, hw1, c1, b1⟩ := news1 w (.cells #[] 23)
    have W1 := Lib.hid hw1
    have HA := Lib.hid (h.chg c1 (by simp))
    have HO : Hid (OwnK dotTy w1 (some ⟨w.heap.size, 0, none⟩) 0 []) := Lib.hid (.of (full := []) b1 (Nat.le_refl _) (Nat.zero_le _) rfl rfl)
    have C1 := Lib.hid c1
    have HN : Hid ((0 + n) * 400 ≤ 140737488355327) := Lib.hid (by rw [Nat.zero_add]; exact hn)
    clear hw1 c1 b1 h hn
    go_enter Tryz.func98, Tryz.ntmps98
    go_wp2_with (at_builtin; rw [← W1.out]; refine wpList_appK rfl _ _ rfl rfl HO.out rfl rfl HA.out HN.out ?_; intro A2 c2 w2 u2 d2 e2)
    go_ret
    rw [Nat.zero_add] at *
    have hA2 : ∀ a, A2 = some a → w.heap.size ≤ a.block := by
      rintro a rfl
      rcases e2 with h | h
      · cases h; exact Nat.le_refl _
      · cases h; exact C1.out.size
    exact ⟨A2, c2, by simp, by simpa using u2, hA2, C1.out.grown d2 (fun k hk => by simp at hk; subst hk; exact .inr (Nat.le_refl _))⟩

/-- What is cleared from some place on. -/
theorem run_clearD (w : World) (ty : TypeId) (g c n k : Nat) (full : List (Int × Int)) (hg : w.heap[g]? = some (.cells (dotTy.flat full).toArray 23 (0, 0))) (hl : full.length = c) (hn : n ≤ c) (hk : k < n) :
    (Builtin.clear_ #[43] ty #[.slice (some ⟨g, k * 2, none⟩) (n - k) (c - k)]).run Tryz.prog w = .ok (.tuple #[]) (w.setRow g (dotTy.flat (full.take k ++ List.replicate (n - k) (0, 0) ++ full.drop n)).toArray) := by
  have hz := dotTy.zeros (n - k)
  have hk2 : dotTy.k = 2 := rfl
  have hlen : (dotTy.flat full).length = full.length * 2 := dotTy.flat_len full
  have hlz : (dotTy.flat (List.replicate (n - k) dotTy.z)).length = (n - k) * 2 := by rw [dotTy.flat_len, List.length_replicate, hk2]
  have hst := run_storeCells_at (P := Tryz.prog) g (k * 2) 23 (dotTy.flat (List.replicate (n - k) dotTy.z)) 0 _ w hg (by rw [hlz, List.size_toArray, hlen]; omega) (dotTy.flat_one _)
  have ht := dotTy.flat_take full k
  have hd := dotTy.flat_drop full n
  rw [hk2] at ht hd
  have hfin : ((dotTy.flat full).toArray.toList.take (k * 2 + 0) ++ dotTy.flat (List.replicate (n - k) dotTy.z) ++ (dotTy.flat full).toArray.toList.drop (k * 2 + 0 + (dotTy.flat (List.replicate (n - k) dotTy.z)).length)) = dotTy.flat (full.take k ++ List.replicate (n - k) (0, 0) ++ full.drop n) := by
    rw [dotTy.flat_app, dotTy.flat_app, ht, hd, hlz, show k * 2 + 0 + (n - k) * 2 = n * 2 by omega]
    rfl
  rw [hfin] at hst
  obtain ⟨m, hm⟩ : ∃ m, n - k = m + 1 := ⟨n - k - 1, by omega⟩
  have hzv : ∀ w, (zeroValue 23).run Tryz.prog w = .ok (.agg #[.int .i64 0, .int .i64 0]) w := Tryz.zeroValue23
  have hzz : (Builtin.zeroCells (Value.agg #[.int .i64 0, .int .i64 0]).cells (n - k)).toList = dotTy.flat (List.replicate (n - k) dotTy.z) := by
    exact (congrArg Array.toList hz).trans (by simp)
  rw [hm] at hst hzz ⊢
  simp [Builtin.clear_, run_underlying Tryz.underlying43, hzv, hzz, hst]
instance : Inhabited (Int × Int) := ⟨(0, 0)⟩
theorem dk_at {dk : Array (Int × Int)} {rest : List (Int × Int)} {j : Nat} (h : j < dk.size) : (dk.toList ++ rest)[j]? = some dk[j]! := by
  rw [List.getElem?_append_left (by simpa using h), Array.getElem?_toList, Array.getElem?_eq_getElem h, getElem!_pos dk j h]
theorem dk_set {dk : Array (Int × Int)} {rest : List (Int × Int)} {j : Nat} (x : Int × Int) (h : j < dk.size) : (dk.toList ++ rest).set j x = (dk.setIfInBounds j x).toList ++ rest := by
  rw [List.set_append_left _ _ (by simpa using h), Array.toList_setIfInBounds]
/-- The row, as far as it is gone through. -/
structure RowD (w wr : World) (g : Nat) (dk : Array (Int × Int)) (rest : List (Int × Int)) : Prop where
  row : wr.heap[g]? = some (.cells (dotTy.flat (dk.toList ++ rest)).toArray 23 (0, 0))
  chg : Chg [g] w wr
theorem RowD.at_ {w wr : World} {g : Nat} {dk : Array (Int × Int)} {rest : List (Int × Int)} (h : RowD w wr g dk rest) (hm : (dk.toList ++ rest).length ≤ maxLen) {j : Nat} (hj : j < dk.size) :
    (wr.cell? ⟨g, j * 2, none⟩ = some (.int .i64 dk[j]!.1) ∧ wr.cell? ⟨g, j * 2 + 1, none⟩ = some (.int .i64 dk[j]!.2)) ∧ wr.frozen? ⟨g, j * 2, none⟩ = false ∧ wr.frozen? ⟨g, j * 2 + 1, none⟩ = false := by
  have hrd : RdK dotTy wr (some ⟨g, 0, none⟩) (dk.toList ++ rest).length (dk.toList ++ rest) := (OwnK.of (R := dotTy) (xs := dk.toList ++ rest) h.row (Nat.le_refl _) hm rfl (List.take_length)).reads
  have := dotCells hrd (dk_at hj)
  simp only [Nat.zero_add] at this
  exact ⟨this, free_of h.row _, free_of h.row _⟩
theorem RowD.put {w wr : World} {g : Nat} {dk : Array (Int × Int)} {rest : List (Int × Int)} (h : RowD w wr g dk rest) {j : Nat} (hj : j < dk.size) (x : Int × Int) :
    RowD w ((wr.setCell ⟨g, j * 2, none⟩ (.int .i64 x.1)).setCell ⟨g, j * 2 + 1, none⟩ (.int .i64 x.2)) g (dk.setIfInBounds j x) rest := by
  refine ⟨?_, h.chg.trans (((Chg.refl [g] wr).setCell (p := ⟨g, j * 2, none⟩) (.inl (by simp)) _).setCell (p := ⟨g, j * 2 + 1, none⟩) (.inl (by simp)) _)⟩
  have := dotPut wr g j (dk.toList ++ rest) x h.row (by simp; omega)
  rwa [dk_set x hj] at this
theorem RowD.drew {w wr : World} {g : Nat} {dk : Array (Int × Int)} {rest : List (Int × Int)} (h : RowD w wr g dk rest) (n : Nat) : RowD w (wr.drewN n) g dk rest := ⟨h.row, h.chg.drewN n⟩
theorem Lib.CompInv.take_ {d dk : Array (Int × Int)} {m k : Nat} (h : CompInv d m k dk) (hm : m ≤ d.size) : dk.toList.take k = compactUpTo d m := by
  apply List.ext_getElem?
  intro j
  have hk := h.lt
  have hs := h.size
  by_cases hj : j < k
  · rw [List.getElem?_take, if_pos hj, h.low j hj, Array.getElem?_toList, Array.getElem?_eq_getElem (by omega), getElem!_pos dk j (by omega)]
  · rw [List.getElem?_eq_none (by simp; omega), List.getElem?_eq_none (by rw [h.len]; omega)]
/-- What is left when what is told twice is left out. -/
def cmpct (xs : List (Int × Int)) : List (Int × Int) := compactUpTo xs.toArray xs.length
set_option maxHeartbeats 4000000 in
theorem compactDot_row (w : World) (g c : Nat) (xs rest : List (Int × Int)) (hg : w.heap[g]? = some (.cells (dotTy.flat (xs ++ rest)).toArray 23 (0, 0))) (hc : (xs ++ rest).length = c) (hcm : c ≤ 9223372036854775807) (h2 : ¬ xs.length < 2) :
    Calls Tryz.prog 100 #[.slice (some ⟨g, 0, none⟩) xs.length c] w fun e w' => e = .returned (.slice (some ⟨g, 0, none⟩) (cmpct xs).length c) ∧ OwnK dotTy w' (some ⟨g, 0, none⟩) c (cmpct xs) ∧ Chg [g] w w' := by
  obtain ⟨d, hd⟩ : ∃ d : Array (Int × Int), d = xs.toArray := ⟨_, rfl⟩
  have hds : d.size = xs.length := by rw [hd]; simp
  have hdl : d.toList = xs := by rw [hd]
  have hcr : d.size + rest.length = c := by rw [hds, ← hc, List.length_append]
  have hml : ∀ dk : Array (Int × Int), dk.size = d.size → (dk.toList ++ rest).length ≤ maxLen := fun dk h => by rw [List.length_append, Array.length_toList]; unfold maxLen; omega
  have HM := Lib.hid hml
  have hall0 : (∀ j, j < d.size → keeps d j = true) → cmpct xs = xs := fun h => by
    unfold cmpct
    rw [← hds, ← hd, compactUpTo_all d _ h, range_map_get, hdl]
  have HX := Lib.hid hall0
  have hct : cmpct xs = compactUpTo d d.size := by unfold cmpct; rw [hd]; simp
  have HC := Lib.hid hct
  have HR : Hid (RowD w w g d rest) := Lib.hid ⟨by rw [hdl]; exact hg, Chg.refl _ _⟩
  have HO := Lib.hid (OwnK.of (R := dotTy) (full := xs ++ rest) (xs := xs) hg (by rw [← hc]; simp) (by unfold maxLen; omega) hc List.take_left)
  have HD := Lib.hid hdl
  rw [← hds] at h2 ⊢
  have h2' : ¬ ((d.size : Int) < 2) := by omega
  have HS := Lib.hid hds
  have HCR := Lib.hid hcr
  have hle : d.size ≤ c := by omega
  clear hd hds hdl hml hall0 hct hg hc hcr
  go_enter Tryz.func100, Tryz.ntmps100
  go_wp2
  go_loopg [3] d.size (fun G s3 wr => ∃ k : Nat, 1 ≤ k ∧ k ≤ d.size ∧ d.size - k ≤ G ∧ s3 = .int .i64 k ∧ Hid (Chg [] w wr ∧ ∀ j, j < k → keeps d j = true))
  case atStart => exact ⟨1, Nat.le_refl _, by omega, by omega, rfl, Chg.refl _ _, keeps_lt_one d⟩
  case round =>
    obtain ⟨k, hk1, hk, hG, rfl, HA⟩ := hrel
    by_cases hlt : k < d.size
    · have hrow : RowD w wr g d rest := ⟨HA.out.1.at_ HR.out.row (by simp), HA.out.1.mono (by simp)⟩
      obtain ⟨⟨p0, p1⟩, _⟩ := hrow.at_ (HM.out d rfl) hlt
      obtain ⟨⟨q0, q1⟩, _⟩ := hrow.at_ (HM.out d rfl) (j := k - 1) (by omega)
      have HRW := Lib.hid hrow
      have i0 : (0 : Int) ≤ (k : Int) := by omega
      have i1 : (k : Int) < (d.size : Int) := by omega
      have i2 : IntKind.i64.wrap ((k : Int) - 1) = ((k - 1 : Nat) : Int) := by rw [IntWalk.i64_in _ (by omega)]; omega
      have i3 : ((k - 1 : Nat) : Int) < (d.size : Int) := by omega
      generalize hx : d[k]! = x at *
      generalize hy : d[k - 1]! = y at *
      have B := Lib.hid (And.intro hx hy)
      clear hrow hx hy
      by_cases hxy : x = y
      · subst hxy
        skip
        go_wp2_with fail
        go_quiet (fail)
        clear p0 p1 q0 q1
        have i4 : (0 : Int) ≤ ((d.size - k : Nat) : Int) := by omega
        have i5 : ¬ c = k := by omega
        go_wp2
        go_loopg [3, 5] d.size (fun G s3 s5 wr => ∃ (kk k2 : Nat) (dk : Array (Int × Int)), s3 = .int .i64 kk ∧ s5 = .int .i64 k2 ∧ 1 ≤ k2 ∧ k + k2 ≤ d.size ∧ d.size - (k + k2) ≤ G ∧ Hid (RowD w wr g dk rest ∧ CompInv d (k + k2) kk dk))
        case atStart => exact ⟨k, 1, d, rfl, rfl, Nat.le_refl _, by omega, by omega, HRW.out.drew _, CompInv.start HA.out.2 (keeps_neg (by omega) (by rw [B.out.1, B.out.2]))⟩
        case round =>
          obtain ⟨kk, k2, dk, rfl, rfl, h1, hle2, hg2, HI⟩ := hrel
          have hkk := HI.out.2.lt
          have hds := HI.out.2.size
          by_cases hlt2 : k + k2 < d.size
          · obtain ⟨⟨p0, p1⟩, _⟩ := HI.out.1.at_ (HM.out dk hds) (j := k + k2) (by omega)
            obtain ⟨⟨q0, q1⟩, _⟩ := HI.out.1.at_ (HM.out dk hds) (j := k + k2 - 1) (by omega)
            obtain ⟨⟨r0, r1⟩, f0, f1⟩ := HI.out.1.at_ (HM.out dk hds) (j := kk) (by omega)
            rw [HI.out.2.high (k + k2) (by omega), show (k + k2) * 2 = k * 2 + k2 * 2 by omega] at p0 p1
            rw [HI.out.2.high (k + k2 - 1) (by omega), show (k + k2 - 1) * 2 = k * 2 + (k2 - 1) * 2 by omega] at q0 q1
            generalize hu : d[k + k2]! = u at *
            generalize hv : d[k + k2 - 1]! = v at *
            generalize dk[kk]! = old at *
            have C := Lib.hid (And.intro hu hv)
            clear hu hv
            have HP := Lib.hid ((HI.out.1.drew 1).put (j := kk) (by omega) u)
            have j0 : (0 : Int) ≤ (k2 : Int) := by omega
            have j1 : (k2 : Int) < ((d.size - k : Nat) : Int) := by omega
            have j2 : IntKind.i64.wrap ((k2 : Int) - 1) = ((k2 - 1 : Nat) : Int) := by rw [IntWalk.i64_in _ (by omega)]; omega
            have j3 : ((k2 - 1 : Nat) : Int) < ((d.size - k : Nat) : Int) := by omega
            have j4 : (0 : Int) ≤ (kk : Int) := by omega
            have j5 : (kk : Int) < (d.size : Int) := by omega
            by_cases huv : u = v
            · subst huv
              go_wp2_with fail
              go_quiet (fail)
              go_wp2
              go_roundg (d.size - (k + (k2 + 1)))
              case measure => omega
              case rel => exact ⟨kk, k2 + 1, dk, rfl, by go_num, by omega, by omega, Nat.le_refl _, HI.out.1.drew _, HI.out.2.skip (keeps_neg (by omega) (by rw [C.out.1, C.out.2]))⟩
            · have HU := Lib.hid huv
              by_cases h0 : u.1 = v.1
              · have h1 : ¬ u.2 = v.2 := fun h => huv (Prod.ext h0 h)
                clear huv
                go_wp2_with fail
                go_quiet (fail)
                go_wp2
                go_roundg (d.size - (k + (k2 + 1)))
                case measure => omega
                case rel => exact ⟨kk + 1, k2 + 1, dk.setIfInBounds kk u, by go_num, by go_num, by omega, by omega, Nat.le_refl _, by have hp := (HI.out.1.drew nq).put (j := kk) (by omega) u; first | exact hp | (rw [h0] at hp; exact hp), by have := HI.out.2.keep hlt2 (keeps_pos (by rw [C.out.1, C.out.2]; exact HU.out)); rwa [C.out.1] at this⟩
              · skip
                clear huv
                go_wp2_with fail
                go_quiet (fail)
                go_wp2
                go_roundg (d.size - (k + (k2 + 1)))
                case measure => omega
                case rel => exact ⟨kk + 1, k2 + 1, dk.setIfInBounds kk u, by go_num, by go_num, by omega, by omega, Nat.le_refl _, by have hp := (HI.out.1.drew nq).put (j := kk) (by omega) u; first | exact hp | (rw [h0] at hp; exact hp), by have := HI.out.2.keep hlt2 (keeps_pos (by rw [C.out.1, C.out.2]; exact HU.out)); rwa [C.out.1] at this⟩
          · have hend : k + k2 = d.size := by omega
            have hcl := fun ty => run_clearD wr ty g c d.size kk (dk.toList ++ rest) HI.out.1.row (by rw [List.length_append, Array.length_toList, hds]; exact HCR.out) hle (by omega)
            have hI := HI.out.2
            rw [hend] at hI
            have hlen := hI.len
            have hdn := hI.done (0, 0)
            have j6 : ¬ c = kk := by omega
            have j7 : (kk : Int) ≤ (d.size : Int) := by omega
            have j8 : (0 : Int) ≤ (kk : Int) := by omega
            have HF := Lib.hid (And.intro hI hdn)
            clear hI hlen hdn
            have HJ := Lib.hid (And.intro hend (And.intro hkk hds))
            have hz : decide (k2 < d.size - k) = false := by simp; omega
            have hz2 : ¬ k2 < d.size - k := by omega
            clear hend hkk hds hlt2
            have hown := OwnK.of (R := dotTy) (w := wr.setRow g (dotTy.flat (List.take kk (dk.toList ++ rest) ++ (List.replicate (d.size - kk) (0, 0) ++ List.drop d.size (dk.toList ++ rest)))).toArray) (g := g) (c := c) (full := List.take kk (dk.toList ++ rest) ++ (List.replicate (d.size - kk) (0, 0) ++ List.drop d.size (dk.toList ++ rest))) (xs := cmpct xs) (setRow_heap wr g _ _ _ _ HI.out.1.row)
              (by rw [HC.out, HF.out.1.len]; omega) (by unfold maxLen; omega) (by have := HJ.out.2.2; have := HCR.out; simp; omega) (by rw [HC.out, HF.out.1.len, List.take_append_of_le_length (by have := HJ.out; simp; omega), List.take_take, Nat.min_self, List.take_append_of_le_length (by have := HJ.out; simp; omega)]; exact Lib.CompInv.take_ HF.out.1 (Nat.le_refl _))
            have hch : Chg [g] w (wr.setRow g (dotTy.flat (List.take kk (dk.toList ++ rest) ++ (List.replicate (d.size - kk) (0, 0) ++ List.drop d.size (dk.toList ++ rest)))).toArray) := HI.out.1.chg.trans ⟨rfl, rfl, rfl, by simp, fun i hi hn => setRow_other wr g i _ (by simpa using hn)⟩
            have HE := Lib.hid (And.intro hown hch)
            clear hown hch
            go_wp2
            go_ret
            exact ⟨by rw [HC.out, HF.out.1.len]; rfl, HE.out.1, HE.out.2⟩
      · have HU := Lib.hid hxy
        by_cases h0 : x.1 = y.1
        · have h1 : ¬ x.2 = y.2 := fun h => hxy (Prod.ext h0 h)
          clear hxy
          go_wp2_with fail
          go_quiet (fail)
          go_wp2
          go_roundg (d.size - (k + 1))
          case measure => omega
          case rel =>
            refine ⟨k + 1, by omega, by omega, Nat.le_refl _, by go_num, HA.out.1.drewN _, fun j hj => ?_⟩
            by_cases e : j = k
            · subst e
              exact keeps_pos (by rw [B.out.1, B.out.2]; exact HU.out)
            · exact HA.out.2 j (by omega)
        · skip
          clear hxy
          go_wp2_with fail
          go_quiet (fail)
          go_wp2
          go_roundg (d.size - (k + 1))
          case measure => omega
          case rel =>
            refine ⟨k + 1, by omega, by omega, Nat.le_refl _, by go_num, HA.out.1.drewN _, fun j hj => ?_⟩
            by_cases e : j = k
            · subst e
              exact keeps_pos (by rw [B.out.1, B.out.2]; exact HU.out)
            · exact HA.out.2 j (by omega)
    · obtain rfl : k = d.size := by omega
      clear hlt
      go_wp2
      go_ret
      rw [HX.out HA.out.2]
      exact ⟨by rw [← HS.out]; rfl, HO.out.chg HA.out.1 (by simp), HA.out.1.mono (by simp)⟩
end
section
open Go.RowKit Go.Sort Go.Lib
set_option linter.unusedSimpArgs false
set_option linter.unusedVariables false

theorem cmpct_small {xs : List (Int × Int)} (h : xs.length < 2) : cmpct xs = xs := by
  unfold cmpct
  have hk : ∀ j, j < xs.length → keeps xs.toArray j = true := fun j hj => keeps_lt_one _ j (by omega)
  rw [compactUpTo_all _ _ hk]
  have := range_map_get xs.toArray
  simpa using this
theorem compactDot_any (w : World) (A : Option Addr) (n c : Nat) (xs : List (Int × Int)) (h : OwnK dotTy w A c xs) (hn : n = xs.length) (hm : n ≤ 140737488351232) :
    Calls Tryz.prog 100 #[.slice A n c] w fun e w' => e = .returned (.slice A (cmpct xs).length c) ∧ OwnK dotTy w' A c (cmpct xs) ∧ Chg (blkOf A) w w' := by
  subst hn
  by_cases h2 : xs.length < 2
  · rw [cmpct_small h2]
    have hi : (xs.length : Int) < 2 := by omega
    have HO := Lib.hid h
    clear h h2
    go_enter Tryz.func100, Tryz.ntmps100
    go_wp2
    go_ret
    exact ⟨rfl, HO.out, Chg.refl _ _⟩
  · rcases h with ⟨_, rfl, _⟩ | ⟨g, full, rfl, hg, hl, hc, hn, ht⟩
    · simp at h2
    · have hs : full = xs ++ full.drop xs.length := by
        conv => lhs; rw [← List.take_append_drop xs.length full]
        rw [ht]
      have := compactDot_row w g c xs (full.drop xs.length) (by rw [← hs]; exact hg) (by rw [← hs]; exact hl) (by unfold maxLen at hc; exact hc) h2
      exact this
theorem sortfunc_any (w : World) (A : Option Addr) (n c : Nat) (xs : List (Int × Int)) (h : OwnK dotTy w A c xs) (hn : n = xs.length) (hm : n ≤ 140737488351232) :
    Calls Tryz.prog 99 #[.slice A n c, .func (.func 66) #[] #[]] w fun e w' => e = .returned (.tuple #[]) ∧ OwnK dotTy w' A c (sortL xs) ∧ Chg (blkOf A) w w' := by
  subst hn
  rcases h.shape with ⟨rfl, rfl, rfl⟩ | ⟨g, rfl, _⟩
  · have := AnyF.slices_SortFunc_none Tryz.llLaysD06 none 0 (.func (.func 66) #[] #[]) w
    refine Calls.mono this ?_
    rintro e w' ⟨he, rfl⟩
    have e0 : sortL [] = [] := List.eq_nil_of_length_eq_zero (sortL_len [])
    rw [e0]
    exact ⟨he, OwnK.none_ _, Chg.refl _ _⟩
  · exact sortfunc_some w g c xs h (by omega)
/-- Each once, in order. -/
def sortD (xs : List (Int × Int)) : List (Int × Int) := cmpct (sortL xs)
set_option maxHeartbeats 1000000 in
theorem dsort_any (w : World) (A : Option Addr) (n c : Nat) (xs : List (Int × Int)) (h : RdK dotTy w A n xs) (hn : n * 400 ≤ 140737488355327) :
    Calls Tryz.prog 60 #[.slice A n c] w fun e w' => ∃ A' c', e = .returned (.slice A' (sortD xs).length c') ∧ OwnK dotTy w' A' c' (sortD xs) ∧ (∀ a, A' = some a → w.heap.size ≤ a.block) ∧ Chg [] w w' := by
  have hl := h.len
  have HA := Lib.hid h
  have HN := Lib.hid hn
  have HL := Lib.hid hl
  clear h hn hl
  go_enter Tryz.func60, Tryz.ntmps60
  go_wp2_with fail
  refine (cloneDot_any w A n c xs HA.out HN.out).mono ?_
  rintro e w1 ⟨A1, c1, rfl, o1, n1, h1⟩
  have O1 := Lib.hid o1
  have N1 := Lib.hid n1
  have C1 := Lib.hid h1
  clear o1 n1 h1
  go_wp2_with fail
  refine (sortfunc_any w1 A1 n c1 xs O1.out HL.out.symm (by have := HN.out; omega)).mono ?_
  rintro e w2 ⟨rfl, o2, h2⟩
  have O2 := Lib.hid o2
  have C2 := Lib.hid (C1.out.trans' h2 fun i hi => .inr (blkOf_new N1.out i hi))
  clear o2 h2 O1
  go_wp2_with fail
  refine (compactDot_any w2 A1 n c1 (sortL xs) O2.out (by rw [sortL_len]; exact HL.out.symm) (by have := HN.out; omega)).mono ?_
  rintro e w3 ⟨rfl, o3, h3⟩
  have O3 := Lib.hid o3
  have C3 := Lib.hid (C2.out.trans' h3 fun i hi => .inr (blkOf_new N1.out i hi))
  clear o3 h3
  go_wp2
  go_ret
  exact ⟨A1, c1, rfl, O3.out, N1.out, C3.out⟩
end
end Go.Proofs.YtfdaclifapfmdaaGreatDoor
