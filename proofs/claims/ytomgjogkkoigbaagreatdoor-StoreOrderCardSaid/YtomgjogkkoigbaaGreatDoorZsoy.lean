/- As range_own1, of a body that may also write maps (by substitution in XRangel). store.Paths. The law's events (layer 10): purely. The law's one, is, three (layer 10). SameTexts; the document's join, Split. The law's awake (layer 10), by contracts. event.Bytes, Size. The fingerprint's bytes. store.Print. -/
import Derived.Test.YtomgjogkkoigbaaGreatDoorZsow
import Derived.Test.YtomgjogkkoigbaaGreatDoorZsov
import Derived.Test.YtomgjogkkoigbaaGreatDoorZsoq
import Derived.Test.YtomgjogkkoigbaaGreatDoorZsob
import Derived.Maps.OwnIn
import Derived.Sort.CutIn
import Derived.Test.YtomgjogkkoigbaaGreatDoorZsox
import Derived.Test.YtomgjogkkoigbaaGreatDoorZsod
import Derived.Deep.Cut
import Derived.Test.YtomgjogkkoigbaaGreatDoorZsor
import Derived.Deep.RegionHeld3
import Derived.Test.YtomgjogkkoigbaaGreatDoorZsom
import Derived.Test.YtomgjogkkoigbaaGreatDoorZsos
import Derived.Test.YtomgjogkkoigbaaGreatDoorZsoj
import Derived.RangeFuncCalls
set_option linter.unusedSimpArgs false
set_option linter.unusedVariables false
namespace Go.Proofs.YtomgjogkkoigbaaGreatDoor
section
open Go.RowKit

theorem range_ownm {α : Type} {P : Program} {n : Nat} {g : Operand} {ps : Array Tmp} {assign body : Code} {Q : Exit → Act → World → Prop} {a : Act} {w : World} {gf : Nat} {lb : Array Value}
  (hg : a.eval g = .func (.func gf) #[] lb) (eg : ∀ args w, (callFunc gf args).run P w = .ok (.enter gf args) w) {encs : α → Array Value} {S Sp : List α → Prop} {Ex : List α → α → World → Prop} {Bd : List α → Prop} {n₁ : Nat} (hn₁ : n₁ ≤ w.heap.size) {Si T : List Nat} (hSi : ∀ x ∈ Si, x < w.heap.size)
  (hseq : ∀ (l : Nat) (J Jx : List α → World → Prop) (W : World), Below w.heap.size w W → (∀ pre A B, J pre A → Chg Si A B → J pre B) → (∀ pre A B, Jx pre A → Chg Si A B → Jx pre B) → (∀ pre A, J pre A → Bd pre) →
   (∀ pre x W1, J pre W1 → Ex pre x W1 → YieldAt Fence.wide (n - 1 - 1) P l (encs x) W1 fun e W' => (e = .returned (.bool true) ∧ J (pre ++ [x]) W' ∧ Kpt n₁ T W1 W') ∨ (e = .returned (.bool false) ∧ Jx (pre ++ [x]) W')) →
   J [] W → CallsIn Fence.wide (n - 1) P gf (#[.func (.yield l) #[] #[]] ++ lb) W fun e W' => (∃ v, e = .returned v) ∧ ((∃ xs, S xs ∧ J xs W') ∨ ∃ xs, Sp xs ∧ Jx xs W'))
  (hps : ∀ x, (encs x).size = ps.size) (I : List α → World → Prop) (Ix : Code → List α → World → Prop) (hI : ∀ pre A B, I pre A → Chg Si A B → I pre B) (hIx : ∀ c pre A B, Ix c pre A → Chg Si A B → Ix c pre B)
  (hIl : ∀ pre W l o o', W.heap[l]? = some o → o.isCells = false → l = w.heap.size + 1 → I pre W → I pre (W.putObj l o')) (hIxl : ∀ c pre W l o o', W.heap[l]? = some o → o.isCells = false → l = w.heap.size + 1 → Ix c pre W → Ix c pre (W.putObj l o')) (hBd : ∀ pre A, I pre A → Bd pre) (h0 : I [] w)
  (hEx : ∀ pre x W l o o', W.heap[l]? = some o → o.isCells = false → Ex pre x W → Ex pre x (W.putObj l o')) (a₁ : α → Act)
  (hassign : ∀ (l : Nat) (x : α) (W : World) (K : Act → World → Prop), K (a₁ x) W →
   assign.wpIn (Fence.wide.inRound l) (n - 1 - 1) P (Exit.then K (fun _ _ _ => False)) { tmps := (ps.zip (encs x)).foldl (fun t (p, v) => t.setIfInBounds p v) a.tmps, defers := [] } W)
  (hbody : ∀ (l : Nat) (pre : List α) (x : α) (W : World), w.heap.size + 2 ≤ W.heap.size → I pre W → Ex pre x W → body.wpIn (Fence.wide.inRound l) (n - 1 - 1) P (brkPostM w.heap.size I Ix n₁ T (pre ++ [x]) W) (a₁ x) W)
  (hdone : ∀ (D : Nat) (xs : List α) (W : World), D = w.heap.size → S xs → I xs W → W.heap[D]? = some (.deferred (some [])) → Q .normal { a with defers := { target := .collected D, args := #[] } :: a.defers } W)
  (hstop : ∀ (D : Nat) (c : Code) (xs : List α) (W : World), D = w.heap.size → Sp xs → Ix c xs W → W.heap[D]? = some (.deferred (some [])) → c.wpIn Fence.wide n P Q { a with defers := { target := .collected D, args := #[] } :: a.defers } W) :
  (Code.rangeFunc g ps assign body).wpIn Fence.wide n P Q a w := by
 refine wpIn_rangeFunc ?_
 intro fn hfn
 obtain ⟨rc, hrc⟩ : ∃ rc : LoopState → Option Code → Loop, rc = fun st pe => { state := st, pending := pe, fn, tmps := a.tmps, params := ps, assign, body, defers := w.heap.size } := ⟨_, rfl⟩
 obtain ⟨V, hV, hcV, hD0, hL0⟩ := news2 w (.deferred (some [])) (.loop (rc .ready none))
 have hsV : V.heap.size = w.heap.size + 2 := by rw [hV]; simp
 have bV : Below w.heap.size w V := by rw [hV]; exact ((Below.refl _ w).alloc (Nat.le_refl _) _).alloc (by simp) _
 refine ⟨w.heap.size + 1, [{ target := .collected w.heap.size, args := #[] }], V, { target := .fn (.func gf) lb, args := #[.func (.yield (w.heap.size + 1)) #[] #[]] }, V, gf,
  #[.func (.yield (w.heap.size + 1)) #[] #[]] ++ lb, V, ?_, ?_, fun _ _ => trivial, ?_, fun h => by simp [Fence.wide] at h, ?_⟩
 ·
  rw [hV, hrc]; exact run_enterLoop_outer _ _ _ _ _
 ·
  simp only [resolve, hg]
  simp [go_sem]
 ·
  simp [invoke, go_sem, eg]
 ·
  -- the record and the row of deferred calls, turned or not, lie at or behind w's end
  have turn : ∀ (W : World) (o : Obj) (o' : Obj), W.heap[w.heap.size + 1]? = some o → o.isCells = false → o.isWalk = false → ∀ m, m ≤ w.heap.size → Below m W (W.putObj (w.heap.size + 1) o') :=
   fun W o o' h hc hw m hm => belowK_b (w := w) hm W _ o o' (by omega) h hc hw
  have far : ∀ k, w.heap.size ≤ k → k ∉ Si := fun k hk h => by have := hSi k h; omega
  refine (hseq (w.heap.size + 1) (fun pre W => I pre W ∧ W.heap[w.heap.size + 1]? = some (.loop (rc .ready none)) ∧ W.heap[w.heap.size]? = some (.deferred (some [])))
   (fun pre W => ∃ c, Ix c pre W ∧ W.heap[w.heap.size + 1]? = some (.loop (rc .done (some c))) ∧ W.heap[w.heap.size]? = some (.deferred (some []))) V bV ?_ ?_ (fun pre A h => hBd _ _ h.1) ?_
   ⟨hI _ _ _ h0 (Chg.ofBelow bV (Nat.le_refl _) _), hL0, hD0⟩).mono ?_
  ·
   rintro pre A B ⟨hi, hl, hk⟩ hb
   exact ⟨hI _ _ _ hi hb, hb.at_ hl (far _ (by omega)), hb.at_ hk (far _ (Nat.le_refl _))⟩
  ·
   rintro pre A B ⟨c, hi, hl, hk⟩ hb
   exact ⟨c, hIx _ _ _ _ hi hb, hb.at_ hl (far _ (by omega)), hb.at_ hk (far _ (Nat.le_refl _))⟩
  ·
   rintro pre x W ⟨hi, hl, hk⟩ hx
   have hlt := lt_of_heap hl
   have hy := run_yield (P := P) (args := encs x) hl (by rw [hrc]; exact hps x)
   rw [hrc] at hy
   refine ⟨fn, _, assign, body, hy, roundIn_of_wpIn hfn (hassign _ x W _ ⟨_, run_beginRound hl (by rw [hrc]), ?_⟩)⟩
   have hl2 : (W.putObj (w.heap.size + 1) (.loop { rc .ready none with state := .busy })).heap[w.heap.size + 1]? = some (.loop { rc .ready none with state := .busy }) := World.putObj_heap_same hlt
   have hk2 : (W.putObj (w.heap.size + 1) (.loop { rc .ready none with state := .busy })).heap[w.heap.size]? = some (.deferred (some [])) := (World.putObj_heap_other (by omega)).trans hk
   have b2 := turn W _ (.loop { rc .ready none with state := .busy }) hl rfl rfl
   refine wpIn_mono (hbody _ pre x _ (by simp [World.putObj]; omega) (hIl _ _ _ _ _ hl rfl (by omega) hi) (hEx pre x W _ _ _ hl rfl hx)) ?_
   have fin : ∀ (c : Code) (W3 : World), KeepsTwo w.heap.size (W.putObj (w.heap.size + 1) (.loop { rc .ready none with state := .busy })) W3 → Ix c (pre ++ [x]) W3 →
     ∃ v w', (Instr.endRound (w.heap.size + 1) (some c)).run P W3 = .ok v w' ∧ ((Ending.returned v = .returned (.bool true) ∧ (I (pre ++ [x]) w' ∧ w'.heap[w.heap.size + 1]? = some (.loop (rc .ready none)) ∧ w'.heap[w.heap.size]? = some (.deferred (some []))) ∧ Kpt n₁ T W w') ∨
      (Ending.returned v = .returned (.bool false) ∧ ∃ c, Ix c (pre ++ [x]) w' ∧ w'.heap[w.heap.size + 1]? = some (.loop (rc .done (some c))) ∧ w'.heap[w.heap.size]? = some (.deferred (some [])))) := by
    intro c W3 hk3 hi3
    have hl3 := hk3.2.trans hl2
    have hd3 := hk3.1.trans hk2
    have hr := run_endRound (P := P) (some c) hl3
    have b4 := turn W3 _ (.loop (rc .done (some c))) hl3 rfl rfl
    refine ⟨_, _, hr, .inr ⟨rfl, c, ?_, ?_, ?_⟩⟩
    ·
     have := hIxl _ _ _ _ _ (.loop (rc .done (some c))) hl3 rfl (by omega) hi3
     rw [hrc] at this ⊢
     exact this
    ·
     rw [hrc]; exact World.putObj_heap_same (lt_of_heap hl3)
    ·
     exact (World.putObj_heap_other (by omega)).trans hd3
   rintro e a3 W3 hp
   cases e with
   | normal =>
    obtain ⟨hk3, hb3, hi3⟩ := hp
    have hl3 := hk3.2.trans hl2
    have hd3 := hk3.1.trans hk2
    have hr := run_endRound (P := P) none hl3
    have b4 := turn W3 _ (.loop (rc .ready none)) hl3 rfl rfl
    refine ⟨_, _, hr, .inl ⟨rfl, ⟨?_, ?_, ?_⟩, ?_⟩⟩
    ·
     have := hIl _ _ _ _ (.loop (rc .ready none)) hl3 rfl (by omega) hi3
     rw [hrc] at this ⊢
     exact this
    ·
     rw [hrc]; exact World.putObj_heap_same (lt_of_heap hl3)
    ·
     exact (World.putObj_heap_other (by omega)).trans hd3
    ·
     have := ((Kpt.of_below (T := T) (b2 _ hn₁) (Nat.le_refl _)).trans hb3).trans (Kpt.of_below (b4 _ hn₁) (Nat.le_refl _))
     rw [hrc] at this ⊢
     exact this
   | ret => exact fin .ret W3 hp.1 hp.2
   | exit id => exact fin (.exit id) W3 hp.1 hp.2
   | goto t => exact hp.elim
   | panic ch => exact hp.elim
   | outgrown => exact hp.elim
  ·
   rintro e W2 ⟨⟨v, rfl⟩, (⟨xs, hS, hi, hl, hk⟩ | ⟨xs, hS, c, hi, hl, hk⟩)⟩
   ·
    refine ⟨none, _, by have := run_endLoop (P := P) hl (by rw [hrc]; simp); rw [hrc] at this; exact this, hdone _ xs _ rfl hS ?_ ((World.putObj_heap_other (by omega)).trans hk)⟩
    exact hIl _ _ _ _ _ hl rfl (by omega) hi
   ·
    refine ⟨some c, _, by have := run_endLoop (P := P) hl (by rw [hrc]; simp); rw [hrc] at this; exact this, hstop _ c xs _ rfl hS ?_ ((World.putObj_heap_other (by omega)).trans hk)⟩
    exact hIxl _ _ _ _ _ _ hl rfl (by omega) hi
end
section
open Go.RowKit Go.Lib


attribute [local go_sem] Oper.semAt_some
def textSet (ps : List (List UInt8)) : DataW Unit := Go.Maps.setOf (.agg []) (ps.map (fun p => Lit.string p))
theorem textSet_snoc (ps : List (List UInt8)) (p : List UInt8) : textSet (ps ++ [p]) = (textSet ps).put (.string p) (.agg []) := by
 unfold textSet
 rw [List.map_append]
 exact Go.Maps.setOf_snoc _ _ _
theorem textSet_has (ps : List (List UInt8)) (p : List UInt8) : Go.Maps.has (textSet ps) (.string p) = decide (p ∈ ps) := by
 unfold textSet
 rw [Go.Maps.has_setOf _ _ _ (fun x hx => by obtain ⟨q, _, rfl⟩ := List.mem_map.1 hx; trivial), Bool.eq_iff_iff, List.any_eq_true, decide_eq_true_eq]
 constructor
 ·
  rintro ⟨x, hx, hs⟩
  obtain ⟨q, hq, rfl⟩ := List.mem_map.1 hx
  have := WideAt.sameKey_eq hs
  cases this
  exact hq
 ·
  intro h
  exact ⟨.string p, List.mem_map.2 ⟨p, h, rfl⟩, WideAt.sameKey_self trivial⟩
theorem ownsMap_putl {H : Type} {w : World} {P : Program} {k : TypeId} {R : Value → Option (DataW H × List MemPlace)} {b n l : Nat} {o : Obj} {D : DataW H} (h : w.ownsMap P k R b n D) (hb : b ≠ l) : (w.putObj l o).ownsMap P k R b n D := by
 obtain ⟨es, clock, q, r⟩ := h
 exact ⟨es, clock, (World.putObj_heap_other hb).trans q, r⟩
theorem Kpt.toLow {n : Nat} {T : List Nat} {a b : World} (h : Kpt n T a b) (hT : ∀ x ∈ T, n ≤ x) : Kpt n [] a b :=
 ⟨h.os, h.tape, h.output, h.size, fun k hk _ => h.block k hk (fun q => by have := hT k q; omega)⟩
structure PathsI (w : World) (m b0 b1 b2 : Nat) (ps : List (List UInt8)) (W : World) (B : Option Addr) (d : Nat) : Prop where
 out : W.heap[b0]? = some (.cells #[.slice B ps.length d] 48 (0, 0))
 own : OwnK textTy W B d ps
 far : ∀ a, B = some a → m + 2 ≤ a.block
 box : W.heap[b2]? = some (.cells #[.map (some b1)] 87 (0, 0))
 map : W.ownsMap Tryz.prog 9 (unitElem (H := Unit)) b1 ps.length (textSet ps)
 chg : Chg [] w W
 sz : m ≤ W.heap.size
theorem PathsI.next {w : World} {m b0 b1 b2 : Nat} {ps : List (List UInt8)} {W W' : World} {B : Option Addr} {d : Nat} (h : PathsI w m b0 b1 b2 ps W B d) (hc : Chg [] W W') : PathsI w m b0 b1 b2 ps W' B d :=
 ⟨hc.at_ h.out (by simp), h.own.chg hc (by simp), h.far, hc.at_ h.box (by simp), ownsMap_chg h.map hc (by simp), h.chg.trans hc, Nat.le_trans h.sz hc.size⟩
theorem PathsI.putl {w : World} {m b0 b1 b2 l : Nat} {ps : List (List UInt8)} {W : World} {B : Option Addr} {d : Nat} {o o' : Obj} (h : PathsI w m b0 b1 b2 ps W B d) (hl : W.heap[l]? = some o) (ho : o.isCells = false) (h0 : b0 ≠ l) (h1 : b1 ≠ l) (h2 : b2 ≠ l) (hw : w.heap.size ≤ l) : PathsI w m b0 b1 b2 ps (W.putObj l o') B d :=
 ⟨(World.putObj_heap_other h0).trans h.out, h.own.putl hl ho, h.far, (World.putObj_heap_other h2).trans h.box, ownsMap_putl h.map h1, h.chg.putl hw, by simpa [World.putObj] using h.sz⟩

set_option maxRecDepth 100000 in
set_option maxHeartbeats 16000000 in
theorem stpaths_any (w : World) (A : Option Addr) (c : Nat) (xs : List EvT) (es : List EvP) (h : RdK evTy w A xs.length xs) (hc : xs.length ≤ c) (ho : xs = [] ∨ ∀ a, A = some a → a.block < w.heap.size) (hx : EvsR w xs es) (hn : xs.length ≤ 100000) (hs : ∀ e ∈ es, EvSm e) :
  Calls Tryz.prog 28 #[.slice A xs.length c] w fun r w' => ∃ (B : Option Addr) (d : Nat), r = .returned (.slice B (pathsE es).length d) ∧ RdK textTy w' B (pathsE es).length (pathsE es) ∧ Chg [] w w' := by

 refine (callsIn_wide (n := 6)).1 ?_
 refine callsIn_of_wp_marks Tryz.func28 rfl trivial ?_ rfl
 simp only [Tryz.ntmps28, List.size_toArray, List.length_cons, List.length_nil, Nat.reduceAdd, Nat.reduceSub, Array.replicate_succ, Array.replicate_zero, List.push_toArray, List.append_toArray, List.nil_append, List.cons_append]
 have hmm := @run_makeMap Tryz.prog
 obtain ⟨w1, hw1, c1, q0, q1⟩ := news2 w (.cells #[.slice none 0 0] 48) (.map #[] 0)
 obtain ⟨w2, hw2, c2, q2⟩ := news1 w1 (.cells #[.map (some (w.heap.size + 1))] 87)
 obtain ⟨w3, hw3, c3, q3⟩ := news1 w2 (.cells #[.slice A xs.length c] 22)
 have OWN0 : w1.ownsMap Tryz.prog 9 (unitElem (H := Unit)) (w.heap.size + 1) 0 (textSet []) := ⟨#[], 0, q1, ⟨by simp, Go.MapKept.stamped_empty 0, by simp⟩, Nat.le_refl _, rfl⟩
 have sz1 : w1.heap.size = w.heap.size + 2 := by rw [hw1]; simp
 have sz2 : w2.heap.size = w.heap.size + 3 := by rw [hw2]; simp [sz1]
 have sz3 : w3.heap.size = w.heap.size + 4 := by rw [hw3]; simp [sz2]
 have W1 := Lib.hid hw1
 have W2 := Lib.hid hw2
 have W3 := Lib.hid hw3
 have Q0 := Lib.hid (c3.at_ (c2.at_ q0 (by simp)) (by simp))
 have Q2 := Lib.hid (c3.at_ q2 (by simp))
 have Q3 := Lib.hid q3
 have QM := Lib.hid (ownsMap_chg OWN0 (c2.trans c3) (by simp))
 have C3 := Lib.hid (c1.trans (c2.trans c3))
 have SZ := Lib.hid (And.intro sz1 (And.intro sz2 sz3))
 rw [sz1] at Q2
 rw [sz2] at Q3
 clear hw1 hw2 hw3 c1 c2 c3 q0 q1 q2 q3 OWN0 sz1 sz2 sz3
 gi_wp2_with (refine ⟨trivial, ?_⟩; gi_at_call 53; refine (callsIn_wide.2 (struns_any _ A xs.length c)).mono ?_; rintro e w9 ⟨rfl, rfl⟩)
 rw [← W1.out, ← W2.out, ← W3.out]
 obtain ⟨b0, h0⟩ : ∃ r, w.heap.size = r := ⟨_, rfl⟩
 obtain ⟨b1, h1⟩ : ∃ r, b0 + 1 = r := ⟨_, rfl⟩
 obtain ⟨b2, h2⟩ : ∃ r, b1 + 1 = r := ⟨_, rfl⟩
 obtain ⟨b3, h3⟩ : ∃ r, b2 + 1 = r := ⟨_, rfl⟩
 rw [show w.heap.size + 2 = w.heap.size + 1 + 1 from rfl] at Q2
 rw [show w.heap.size + 3 = w.heap.size + 1 + 1 + 1 from rfl] at Q3
 rw [h0] at Q0 QM Q2 Q3 ⊢
 rw [h1] at QM Q2 Q3 ⊢
 rw [h2] at Q2 Q3 ⊢
 rw [h3] at Q3 ⊢
 have RR : Hid (w.heap.size = b0 ∧ b1 = b0 + 1 ∧ b2 = b0 + 2 ∧ b3 = b0 + 3 ∧ w3.heap.size = b0 + 4) := Lib.hid (by have := SZ.out; omega)
 have HA := Lib.hid h
 have HC := Lib.hid hc
 have HO := Lib.hid ho
 have HX := Lib.hid hx
 have HN := Lib.hid hn
 have HS := Lib.hid hs
 clear W1 W2 W3 SZ h0 h1 h2 h3 h hc ho hx hn hs hmm
 have XP : Hid (∀ (i : Nat) (x : EvT) (e : EvP), xs[i]? = some x → es[i]? = some e → x.p = strOf e.p) := Lib.hid (fun i x e a b => (HX.out.2 i x e a b).p)
 have BLK : Hid (xs = [] ∨ ∀ a, A = some a → a.block < w3.heap.size ∧ a.block ∉ [b0, b1]) := Lib.hid (HO.out.imp id (fun q a ha => by have := q a ha; have := RR.out; exact ⟨by omega, by simp; omega⟩))
 refine range_ownm (gf := 115) (lb := #[.pointer (some ⟨b3, 0, none⟩)]) rfl (enters_of Tryz.func115 (by kernel_rfl) rfl) (encs := fun x : Nat × Nat => #[.slice (runA A x.1) (x.2 - x.1) (x.2 - x.1)]) (n₁ := w3.heap.size) (Nat.le_refl _)
  (S := fun ys => endRun ys = es.length) (Sp := fun _ => True) (Ex := fun pre x _ => x.1 = endRun pre ∧ RunAt es x.1 x.2) (Bd := fun _ => True) (Si := []) (T := [b0, b1]) ?si ?seq (fun _ => rfl)
  (fun pre W => ∃ B d, PathsI w w3.heap.size b0 b1 b2 (pathsE (es.take (endRun pre))) W B d)
  (fun _ _ _ => False)
  ?keep ?keepx ?kl ?kxl ?bd ?start ?elem
  (fun x => { tmps := #[.slice A xs.length c, undef, .slice none 0 0, .pointer (some ⟨b0, 0, none⟩), .pointer (some ⟨b2, 0, none⟩), .slice (runA A x.1) (x.2 - x.1) (x.2 - x.1), undef, undef, undef, .map (some b1), .slice A xs.length c, .func (.func 115) #[] #[.pointer (some ⟨b3, 0, none⟩)], .slice (runA A x.1) (x.2 - x.1) (x.2 - x.1), undef, undef, undef, undef, undef, undef, undef, undef, undef, undef, undef, undef, undef, undef, undef, undef, undef, undef, undef, undef], defers := [] }) ?assign ?body ?done ?stop
 case si => simp
 case start => exact ⟨none, 0, ⟨Q0.out, OwnK.none_ _, by simp, Q2.out, QM.out, C3.out, Nat.le_refl _⟩⟩
 case seq =>
  intro l' J Jx W hW hJ hJx hJb hY h0
  have hs2 := hW.size
  exact runs1_gives 4 l' w3.heap.size b3 [b0, b1] A c xs es J Jx W (by have := RR.out; omega) (by have := RR.out; simp; omega) (by omega) BLK.out (fun pre A B _ h2 hc => hJ pre A B h2 hc) HX.out.1 XP.out (HA.out.chg (C3.out.trans (Chg.ofBelow hW (Nat.le_refl _) [])) (by simp)) HC.out HN.out ((hW.block _ (by have := RR.out; omega)).trans Q3.out) hY h0
 case keep =>
  rintro pre A' B' ⟨B, d, hi⟩ hb
  exact ⟨B, d, hi.next hb⟩
 case keepx =>
  rintro c pre A' B' hf hb
  exact hf.elim
 case kl =>
  rintro pre W l o o' hl ho hll ⟨B, d, hi⟩
  have rr := RR.out
  exact ⟨B, d, hi.putl hl ho (by omega) (by omega) (by omega) (by omega)⟩
 case kxl =>
  rintro c pre W l o o' hl ho hll hf
  exact hf.elim
 case bd => exact fun _ _ _ => trivial
 case elem =>
  rintro pre x W l o o' hl ho hx
  exact hx
 case assign =>
  intro l x W K hK
  gi_wp2
  exact hK
 case body =>
  rintro l' pre ⟨k, m⟩ W hsz ⟨B, d, hi⟩ ⟨hk, hrun⟩
  have rr := RR.out
  dsimp only at hk hrun ⊢
  rw [← hk] at hi
  have km := hrun.lt
  have mn : m ≤ xs.length := by have := hrun.le; have := HX.out.1; omega
  have RA := Lib.hid (HA.out.chg hi.chg (by simp))
  obtain ⟨g, o, eA, _⟩ := RA.out.line (by omega)
  subst eA
  obtain ⟨b, hb⟩ : ∃ b, es[k]? = some b := ⟨_, List.getElem?_eq_getElem (by have := HX.out.1; omega)⟩
  obtain ⟨x0, hx0⟩ : ∃ x, xs[k]? = some x := ⟨_, List.getElem?_eq_getElem (by omega)⟩
  have zk := (evCells RA.out hx0).2.2.1
  rw [XP.out k x0 b hx0 hb] at zk
  have PL : Hid (b.p.length ≤ 10000000) := Lib.hid (HS.out b (List.mem_of_getElem? hb)).1
  have NX := Lib.hid (paths_run hrun hb)
  have HK := Lib.hid hk
  have HSZ := Lib.hid hsz
  have mk0 : 0 < m - k := by omega
  have mk1 : (0 : Int) < ((m - k : Nat) : Int) := by omega
  obtain ⟨ps, hps⟩ : ∃ ps, pathsE (es.take k) = ps := ⟨_, rfl⟩
  rw [hps] at hi NX
  have HI := Lib.hid hi
  have KEY := Lib.hid (keyText b.p (by have := PL.out; unfold maxLen; omega))
  have PSN : Hid (ps.length ≤ 100000) := Lib.hid (by
   have key : ∀ (l : List EvP) (acc : List (List UInt8)), (l.foldl (fun acc e => addP acc e.p) acc).length ≤ acc.length + l.length := by
    intro l
    induction l with
    | nil => intro acc; simp
    | cons x l ih =>
     intro acc
     have := ih (addP acc x.p)
     simp only [List.foldl_cons, List.length_cons]
     have h2 : (addP acc x.p).length ≤ acc.length + 1 := by unfold addP; split <;> simp
     omega
   have := key (es.take k) []
   rw [← hps]
   unfold pathsE
   rw [List.length_take] at this
   have := HN.out
   have := HX.out.1
   simp at *
   omega)
  simp only [runA_some]
  have z0 := cell_of hi.box 0
  simp only [List.getElem?_toArray, List.getElem?_cons_zero] at z0
  obtain ⟨w5, hw5, c5, q5⟩ := news1 W (.cells #[] 80)
  have W5 := Lib.hid hw5
  have I5 := Lib.hid (hi.next c5)
  have C5 := Lib.hid c5
  clear hb hx0 hrun hi hk hsz km mn rr hps hw5 c5 q5
  by_cases hin : b.p ∈ ps
  ·
   have e6 : decide (b.p ∈ ps) = true := decide_eq_true hin
   have NP : Hid (pathsE (es.take m) = ps) := Lib.hid (by rw [NX.out]; unfold addP; rw [if_pos hin])
   clear hin NX
   gi_wp2_with (gi_at_lookup; refine wpListIn_lookup_own_unit _ rfl _ _ 87 rfl 9 80 law_text Tryz.underlying87 (zero_unit _) b1 ps.length (textSet ps) rfl HI.out.map _ _ rfl KEY.out ?_; rw [textSet_has, e6])
   rw [← W5.out]
   refine ⟨KeepsTwo.of_chg C5.out (by simp) HSZ.out, Kpt.of_chg (C5.out.mono (by simp)) HI.out.sz, B, d, ?_⟩
   rw [endRun_snoc, NP.out]
   exact I5.out
  ·
   have e6 : decide (b.p ∈ ps) = false := decide_eq_false hin
   have NP : Hid (pathsE (es.take m) = ps ++ [b.p]) := Lib.hid (by rw [NX.out]; unfold addP; rw [if_neg hin])
   clear hin NX
   gi_upto_region 8 with (gi_at_lookup; refine wpListIn_lookup_own_unit _ rfl _ _ 87 rfl 9 80 law_text Tryz.underlying87 (zero_unit _) b1 ps.length (textSet ps) rfl HI.out.map _ _ rfl KEY.out ?_; rw [textSet_has, e6])
   rw [← W5.out]
   obtain ⟨g5, hg5⟩ : ∃ g, W.heap.size = g := ⟨_, rfl⟩
   rw [hg5]
   clear z0 zk W5 hg5
   have z0 := cell_of I5.out.box 0
   simp only [List.getElem?_toArray, List.getElem?_cons_zero] at z0
   gi_upto_region 9 with (gi_at_mapUpdate; refine wpListIn_mapUpdate_own _ rfl _ _ _ 87 rfl 9 80 law_text Tryz.underlying87 (unitElem (H := Unit)) b1 ps.length _ rfl I5.out.map (by have := PSN.out; unfold maxLen; omega) _ _ _ rfl rfl KEY.out (.agg []) [] unitElem_mk ?_; intro w6 own6 grow6)
   have C6 : Hid (Chg [b1] w5 w6) := Lib.hid ((Chg.refl [b1] w5).grown grow6 (fun i hi => by simp at hi; subst hi; exact .inl (by simp)))
   have MAP6 : Hid (w6.ownsMap Tryz.prog 9 (unitElem (H := Unit)) b1 (ps ++ [b.p]).length (textSet (ps ++ [b.p]))) := Lib.hid (by rw [textSet_snoc, List.length_append]; exact own6)
   obtain ⟨w7, hw7, c7, q7⟩ := news1 w6 (.cells #[.string (strOf b.p)] 9)
   have W7 := Lib.hid hw7
   have RX : Hid (RdK textTy w7 (some ⟨w6.heap.size, 0, none⟩) 1 [b.p]) := Lib.hid (rd_text (xs := [b.p]) q7 (by simp [maxLen]))
   have BF : Hid (∀ a, B = some a → a.block ≠ b1 ∧ a.block ≠ b0) := Lib.hid (fun a ha => by have := I5.out.far a ha; have := RR.out; omega)
   have O7 := Lib.hid ((I5.out.own.chg C6.out (fun a ha => by simpa using (BF.out a ha).1)).chg c7 (by simp))
   have C7 : Hid (Chg [b1] w5 w7) := Lib.hid (C6.out.trans (c7.mono (by simp)))
   have OUT6 := C6.out.at_ I5.out.out (by have := RR.out; simp; omega)
   have zb := cell_of OUT6 0
   simp only [List.getElem?_toArray, List.getElem?_cons_zero] at zb
   have LN : Hid ((ps.length + 1) * 400 ≤ 140737488355327) := Lib.hid (by have := PSN.out; omega)
   have OUTH := Lib.hid (c7.at_ OUT6 (by simp))
   clear own6 grow6 hw7 c7 q7 z0 OUT6
   gi_wp2_with (gi_at_builtin; rw [← W7.out]; refine wpListIn_appK (R := textTy) rfl (.tmp 28) (.tmp 30) rfl rfl O7.out rfl rfl RX.out LN.out ?_; intro B8 d8 w8 o8 g8 e8; have q8 : w8.heap[b0]? = some (.cells #[.slice B ps.length d] 48 (0, 0)) := (g8.block b0 (lt_of_heap OUTH.out) (fun e => by rcases B with _ | a; (· simp at e); (· simp at e; exact (BF.out a rfl).2 e.symm))).trans OUTH.out; have f8 := free_of q8 0; have z8 := cell_of q8 0; simp only [List.getElem?_toArray, List.getElem?_cons_zero] at z8; have Q8 := Lib.hid q8; have O8 := Lib.hid o8; have E8 := Lib.hid e8; have G8 := Lib.hid g8; clear q8 o8 e8 g8)
   have ST := (Chg.refl [b0] w8).setCell (p := ⟨b0, 0, none⟩) (.inl (by simp)) (.slice B8 (ps.length + 1) d8)
   have LO : Hid (∀ a, B8 = some a → w3.heap.size + 2 ≤ a.block) := Lib.hid (fun a ha => by
    rcases E8.out with e | e
    ·
     exact I5.out.far a (by rw [← e]; exact ha)
    ·
     rw [e] at ha; cases ha; have := C7.out.size; have := C5.out.size; have := HSZ.out; show _ ≤ w7.heap.size; omega)
   have C8 : Kpt (w3.heap.size + 2) [b0, b1] W (w8.setCell ⟨b0, 0, none⟩ (.slice B8 (ps.length + 1) d8)) := by
    have k1 : Kpt (w3.heap.size + 2) [b0, b1] W w7 := Kpt.of_chg ((C5.out.mono (by simp)).trans (C7.out.mono (by simp))) HSZ.out
    have k2 : Kpt (w3.heap.size + 2) [b0, b1] w7 w8 := Kpt.grown G8.out (by have := C7.out.size; have := C5.out.size; have := HSZ.out; omega) (fun i hi => by rcases B with _ | a; (· simp at hi); (· simp at hi; subst hi; exact .inl (I5.out.far a rfl)))
    have k3 : Kpt (w3.heap.size + 2) [b0, b1] w8 (w8.setCell ⟨b0, 0, none⟩ (.slice B8 (ps.length + 1) d8)) := (Kpt.of_chg ST (by have := G8.out.size; have := C7.out.size; have := C5.out.size; have := HSZ.out; omega)).mono (Nat.le_refl _) (by simp)
    exact (k1.trans k2).trans k3
   have rr := RR.out
   refine ⟨⟨C8.block _ (by omega) (by simp; omega), C8.block _ (by omega) (by simp; omega)⟩, C8.mono (by omega) (fun z hz => hz), B8, d8, ?_⟩
   rw [endRun_snoc, NP.out]
   refine ⟨?_, ?_, LO.out, ?_, ?_, ?_, Nat.le_trans HI.out.sz C8.size⟩
   ·
    rw [List.length_append]
    simpa using heap_setCell_same w8 b0 0 _ _ (.slice B8 (ps.length + 1) d8) Q8.out
   ·
    exact O8.out.chg ST (fun a ha => by have := LO.out a ha; simp; omega)
   ·
    exact (C8.block b2 (by omega) (by simp; omega)).trans HI.out.box
   ·
    have m8 : w8.ownsMap Tryz.prog 9 (unitElem (H := Unit)) b1 (ps ++ [b.p]).length (textSet (ps ++ [b.p])) := by
     obtain ⟨es', clock, q, r⟩ := MAP6.out
     refine ⟨es', clock, ?_, r⟩
     have q7 : w7.heap[b1]? = some (.map es' clock) := by rw [W7.out]; exact (Below.heap_alloc _ _ _ (lt_of_heap q)).trans q
     exact (G8.out.block b1 (lt_of_heap q7) (fun e => by rcases B with _ | a; (· simp at e); (· simp at e; exact (BF.out a rfl).1 e.symm))).trans q7
    exact ownsMap_chg m8 ST (by simp; omega)
   ·
    exact ((Kpt.of_chg HI.out.chg (Nat.le_refl _)).trans ((C8.mono (n := w.heap.size) (T := [b0, b1]) (by omega) (fun z hz => hz)).toLow (by simp; omega))).chg
 case done =>
  rintro D zs W hD hS ⟨B, d, hi⟩ hK
  rw [hS, List.take_length] at hi
  have z0 := cell_of hi.out 0
  simp only [List.getElem?_toArray, List.getElem?_cons_zero] at z0
  have HI := Lib.hid hi
  have KD := Lib.hid hK
  have DW := Lib.hid (show w.heap.size ≤ D by rw [hD]; exact C3.out.size)
  clear hi hK hS hD
  gi_wp2
  refine ⟨by simp, .inl ⟨_, _, rfl, run_takeDeferred KD.out, ?_⟩⟩
  exact ⟨_, results_tmp rfl _ _ _, B, d, rfl, (HI.out.own.putl KD.out rfl).reads, HI.out.chg.putl DW.out⟩
 case stop =>
  rintro D c zs W hD _ hf hK
  exact hf.elim
end
section
open Go.RowKit Go.Lib

theorem evP_ext {a b : EvP} : (a.n = b.n ∧ a.s = b.s ∧ a.p = b.p ∧ a.k = b.k ∧ a.m = b.m ∧ a.b = b.b ∧ a.q = b.q) ↔ a = b := by
 cases a
 cases b
 simp
instance decEvP : DecidableEq EvP := fun a b => decidable_of_iff _ evP_ext
def s1E : EvP := ⟨1, 1, [102], 1, 0, [], []⟩
def s2E : EvP := ⟨2, 1, [102], 1, 0, [], [(1, 1, 1)]⟩
def s3E : EvP := ⟨3, 1, [102, 47, 103], 1, 0, [], []⟩
def s4E : EvP := ⟨1, 1, [102, 47, 103], 1, 0, [], []⟩
theorem s_put0 : stPut [] s3E = (0, [s3E]) := by decide +kernel
theorem s_put1 : stPut [s3E] s1E = (0, [s1E, s3E]) := by decide +kernel
theorem s_put2 : stPut [s1E, s3E] s2E = (0, [s2E, s3E]) := by decide +kernel
theorem s_join1 : stJoin [s1E, s3E] [s2E] = (0, [s2E, s3E]) := by decide +kernel
theorem s_join2 : stJoin [s2E] [s1E, s3E] = (0, [s2E, s3E]) := by decide +kernel
theorem s_known : knownE [s2E, s3E] = (0, [(2, 1, 1), (3, 1, 1)]) := by decide +kernel
theorem s_paths : pathsE [s1E, s3E] = [[102], [102, 47, 103]] := by decide +kernel
theorem s_shelf : [s2E, s3E].filter (fun e => decide (e.p = [102])) = [s2E] := by decide +kernel
theorem s_near : [s2E, s3E].filter (fun e => nearL e.p [102, 47, 103]) = [s2E, s3E] := by decide +kernel
theorem s_missing : [s1E, s3E].filter (fun e => !hasE [(1, 1, 1)] e.n e.s) = [s3E] := by decide +kernel
theorem s_no : stE [s3E, s1E] = 2 ∧ stE [s1E, s2E] = 2 := by decide +kernel
theorem s_sm (e : EvP) (h : e ∈ [s1E, s2E, s3E, s4E]) : EvSm e ∧ e.q.length ≤ 100000 := by
 simp at h
 rcases h with rfl | rfl | rfl | rfl <;> (constructor <;> simp [EvSm, s1E, s2E, s3E, s4E])
theorem s_sms {l : List EvP} (h : ∀ e ∈ l, e ∈ [s1E, s2E, s3E, s4E] := by simp) : ∀ e ∈ l, EvSm e ∧ e.q.length ≤ 100000 := fun e he => s_sm e (h e he)
end
section
open Go.RowKit Go.Lib


set_option maxRecDepth 100000 in
set_option maxHeartbeats 2000000 in
theorem l10one_any (w : World) (n s : Int) (p : ByteArray) (B : Option Addr) (bl bc : Nat) : Calls Tryz.prog 77 #[.int .i64 n, .int .i64 s, .string p, .slice B bl bc] w fun r w' => r = .returned (.agg #[.int .i64 n, .int .i64 s, .string p, .int .i64 1, .int .i64 0, .slice none 0 0, .slice B bl bc]) ∧ Chg [] w w' := by
 have C : Hid (Chg [] w (w.alloc (.cells #[.int .i64 n, .int .i64 s, .string p, .int .i64 1, .int .i64 0, .slice none 0 0, .slice B bl bc] 30))) := Lib.hid ((Chg.refl [] w).alloc _)
 have b := heap_alloc_new w (.cells #[.int .i64 n, .int .i64 s, .string p, .int .i64 1, .int .i64 0, .slice none 0 0, .slice B bl bc] 30)
 go_enter Tryz.func77, Tryz.ntmps77
 go_wp2
 have z0 := cell_of b 0
 have z1 := cell_of b 1
 have z2 := cell_of b 2
 have z3 := cell_of b 3
 have z4 := cell_of b 4
 have z5 := cell_of b 5
 have z6 := cell_of b 6
 simp only [List.getElem?_toArray, List.getElem?_cons_succ, List.getElem?_cons_zero] at z0 z1 z2 z3 z4 z5 z6
 refine bodyPost_ret (v := .agg #[.int .i64 n, .int .i64 s, .string p, .int .i64 1, .int .i64 0, .slice none 0 0, .slice B bl bc]) (by simp [results, Tryz.results77, go_sem, z0, z1, z2, z3, z4, z5, z6]) rfl ?_
 exact ⟨rfl, C.out⟩
set_option maxRecDepth 100000 in
set_option maxHeartbeats 2000000 in
theorem l10is_any (w : World) (A B : Option Addr) (c d : Nat) (xs ys : List EvT) (es fs : List EvP) (h : RdK evTy w A xs.length xs) (h' : RdK evTy w B ys.length ys) (hx : EvsR w xs es) (hy : EvsR w ys fs) (hn : xs.length ≤ 100000 ∧ ys.length ≤ 100000) (hq : (∀ e ∈ es, e.q.length ≤ 140737488351232) ∧ (∀ e ∈ fs, e.q.length ≤ 140737488351232)) :
  Calls Tryz.prog 44 #[.slice A xs.length c, .slice B ys.length d] w fun r w' => r = .returned (.bool (sameL es fs)) ∧ Chg [] w w' := by
 have CC := Lib.hid (sameevs_any w A B c d xs ys es fs h h' hx hy hn hq)
 clear h h' hx hy hn hq
 generalize sameL es fs = v at *
 go_enter Tryz.func44, Tryz.ntmps44
 go_wp2_with fail
 refine CC.out.mono ?_
 rintro r w1 ⟨rfl, hc⟩
 go_wp2
 go_ret
 exact ⟨rfl, hc⟩
set_option maxHeartbeats 4000000 in
theorem set7_heap {w : World} {g : Nat} {T : TypeId} {a0 a1 a2 a3 a4 a5 a6 : Value} (v0 v1 v2 v3 v4 v5 v6 : Value) (h : w.heap[g]? = some (.cells #[a0, a1, a2, a3, a4, a5, a6] T (0, 0))) :
  (((((((w.setCell ⟨g, 0, none⟩ v0).setCell ⟨g, 1, none⟩ v1).setCell ⟨g, 2, none⟩ v2).setCell ⟨g, 3, none⟩ v3).setCell ⟨g, 4, none⟩ v4).setCell ⟨g, 5, none⟩ v5).setCell ⟨g, 6, none⟩ v6).heap[g]? = some (.cells #[v0, v1, v2, v3, v4, v5, v6] T (0, 0)) := by
 have p0 := heap_setCell_same w g 0 _ _ v0 h
 have p1 := heap_setCell_same _ g 1 _ _ v1 p0
 have p2 := heap_setCell_same _ g 2 _ _ v2 p1
 have p3 := heap_setCell_same _ g 3 _ _ v3 p2
 have p4 := heap_setCell_same _ g 4 _ _ v4 p3
 have p5 := heap_setCell_same _ g 5 _ _ v5 p4
 exact heap_setCell_same _ g 6 _ _ v6 p5


set_option maxRecDepth 100000 in
set_option maxHeartbeats 8000000 in
theorem l10three_any (w : World) : Calls Tryz.prog 43 #[] w fun r w' => ∃ X Y Z : EvT, r = .returned (.tuple #[.agg #[.int .i64 X.n, .int .i64 X.s, .string X.p, .int .i64 X.k, .int .i64 X.m, .slice X.A X.l X.c, .slice X.B X.bl X.bc], .agg #[.int .i64 Y.n, .int .i64 Y.s, .string Y.p, .int .i64 Y.k, .int .i64 Y.m, .slice Y.A Y.l Y.c, .slice Y.B Y.bl Y.bc], .agg #[.int .i64 Z.n, .int .i64 Z.s, .string Z.p, .int .i64 Z.k, .int .i64 Z.m, .slice Z.A Z.l Z.c, .slice Z.B Z.bl Z.bc]]) ∧ EvR w' X s1E ∧ EvR w' Y s2E ∧ EvR w' Z s3E ∧ Chg [] w w' := by
 obtain ⟨w1, hw1, c1, b0, b1, b2⟩ := news3 w (.cells #[.int .i64 0, .int .i64 0, .string ⟨#[]⟩, .int .i64 0, .int .i64 0, .slice none 0 0, .slice none 0 0] 30) (.cells #[.int .i64 0, .int .i64 0, .string ⟨#[]⟩, .int .i64 0, .int .i64 0, .slice none 0 0, .slice none 0 0] 30) (.cells #[.int .i64 0, .int .i64 0, .string ⟨#[]⟩, .int .i64 0, .int .i64 0, .slice none 0 0, .slice none 0 0] 30)
 have W1 := Lib.hid hw1
 have B0 := Lib.hid b0
 have B1 := Lib.hid b1
 have B2 := Lib.hid b2
 have C1 := Lib.hid c1
 clear hw1 b0 b1 b2 c1
 go_enter Tryz.func43, Tryz.ntmps43
 go_upto_region 1 with fail
 rw [← W1.out]
 obtain ⟨g0, h0⟩ : ∃ g, w.heap.size = g := ⟨_, rfl⟩
 obtain ⟨g1, h1⟩ : ∃ g, g0 + 1 = g := ⟨_, rfl⟩
 obtain ⟨g2, h2⟩ : ∃ g, g1 + 1 = g := ⟨_, rfl⟩
 rw [show w.heap.size + 2 = w.heap.size + 1 + 1 from rfl] at B2
 rw [h0] at B0 B1 B2 ⊢
 rw [h1] at B1 B2 ⊢
 rw [h2] at B2 ⊢
 have NE : Hid (g0 ≠ g1 ∧ g0 ≠ g2 ∧ g1 ≠ g2 ∧ w.heap.size ≤ g0 ∧ w.heap.size ≤ g1 ∧ w.heap.size ≤ g2) := Lib.hid (by omega)
 clear h0 h1 h2 W1
 go_wp2_with fail
 refine (l10one_any w1 1 1 ⟨#[102]⟩ none 0 0).mono ?_
 rintro r w2 ⟨rfl, hc⟩
 have C2 := Lib.hid hc
 clear hc
 obtain ⟨w3, hw3, c3, b3⟩ := news1 w2 (.cells #[.int .i64 1, .int .i64 1, .int .i64 1] 72)
 have W3 := Lib.hid hw3
 have RS : Hid (RdK spanTy w3 (some ⟨w2.heap.size, 0, none⟩) 1 [(1, 1, 1)]) := Lib.hid ⟨rfl, fun j v hj => ⟨_, rfl, by rw [add_zero_lit, cell_of b3 j]; simpa [RowTy.flat, spanTy] using hj⟩⟩
 have C3 := Lib.hid (C2.out.trans c3)
 clear hw3 c3 b3
 go_wp2_with fail
 rw [← W3.out]
 obtain ⟨gs, hgs⟩ : ∃ g, w2.heap.size = g := ⟨_, rfl⟩
 have NG : Hid (gs ≠ g0 ∧ gs ≠ g1 ∧ gs ≠ g2) := Lib.hid (by have a := lt_of_heap B0.out; have b := lt_of_heap B1.out; have d := lt_of_heap B2.out; have := C2.out.size; omega)
 rw [hgs] at RS ⊢
 clear hgs W3 C2
 refine (l10one_any w3 2 1 ⟨#[102]⟩ (some ⟨gs, 0, none⟩) 1 1).mono ?_
 rintro r w4 ⟨rfl, hc⟩
 have RS4 := Lib.hid (RS.out.chg hc (by simp))
 have C4 := Lib.hid (C3.out.trans hc)
 clear hc C3 RS
 go_wp2_with fail
 refine (l10one_any w4 3 1 ⟨#[102, 47, 103]⟩ none 0 0).mono ?_
 rintro r w5 ⟨rfl, hc⟩
 have RS5 := Lib.hid (RS4.out.chg hc (by simp))
 have C5 := Lib.hid (C4.out.trans hc)
 clear hc C4 RS4
 have q0 := C5.out.at_ B0.out (by simp)
 have q1 := C5.out.at_ B1.out (by simp)
 have q2 := C5.out.at_ B2.out (by simp)
 have z00 := cell_of q0 0
 have f00 := free_of q0 0
 have z01 := cell_of q0 1
 have f01 := free_of q0 1
 have z02 := cell_of q0 2
 have f02 := free_of q0 2
 have z03 := cell_of q0 3
 have f03 := free_of q0 3
 have z04 := cell_of q0 4
 have f04 := free_of q0 4
 have z05 := cell_of q0 5
 have f05 := free_of q0 5
 have z06 := cell_of q0 6
 have f06 := free_of q0 6
 simp only [List.getElem?_toArray, List.getElem?_cons_succ, List.getElem?_cons_zero] at z00 z01 z02 z03 z04 z05 z06
 have z10 := cell_of q1 0
 have f10 := free_of q1 0
 have z11 := cell_of q1 1
 have f11 := free_of q1 1
 have z12 := cell_of q1 2
 have f12 := free_of q1 2
 have z13 := cell_of q1 3
 have f13 := free_of q1 3
 have z14 := cell_of q1 4
 have f14 := free_of q1 4
 have z15 := cell_of q1 5
 have f15 := free_of q1 5
 have z16 := cell_of q1 6
 have f16 := free_of q1 6
 simp only [List.getElem?_toArray, List.getElem?_cons_succ, List.getElem?_cons_zero] at z10 z11 z12 z13 z14 z15 z16
 have z20 := cell_of q2 0
 have f20 := free_of q2 0
 have z21 := cell_of q2 1
 have f21 := free_of q2 1
 have z22 := cell_of q2 2
 have f22 := free_of q2 2
 have z23 := cell_of q2 3
 have f23 := free_of q2 3
 have z24 := cell_of q2 4
 have f24 := free_of q2 4
 have z25 := cell_of q2 5
 have f25 := free_of q2 5
 have z26 := cell_of q2 6
 have f26 := free_of q2 6
 simp only [List.getElem?_toArray, List.getElem?_cons_succ, List.getElem?_cons_zero] at z20 z21 z22 z23 z24 z25 z26
 have n01 : ¬ g0 = g1 := NE.out.1
 have n02 : ¬ g0 = g2 := NE.out.2.1
 have n12 : ¬ g1 = g2 := NE.out.2.2.1
 have n10 : ¬ g1 = g0 := fun e => n01 e.symm
 have n20 : ¬ g2 = g0 := fun e => n02 e.symm
 have n21 : ¬ g2 = g1 := fun e => n12 e.symm
 have Q0 := Lib.hid q0
 have Q1 := Lib.hid q1
 have Q2 := Lib.hid q2
 clear q0 q1 q2
 go_wp2
 clear z00 f00 z01 f01 z02 f02 z03 f03 z04 f04 z05 f05 z06 f06 z10 f10 z11 f11 z12 f12 z13 f13 z14 f14 z15 f15 z16 f16 z20 f20 z21 f21 z22 f22 z23 f23 z24 f24 z25 f25 z26 f26
 have A0 := set7_heap (.int .i64 1) (.int .i64 1) (.string ⟨#[102]⟩) (.int .i64 1) (.int .i64 0) (.slice none 0 0) (.slice none 0 0) Q0.out
 have HA0 := Chg.set7 (Chg.refl [g0] w5) (g := g0) (.inl (by simp)) 0 (.int .i64 1) (.int .i64 1) (.string ⟨#[102]⟩) (.int .i64 1) (.int .i64 0) (.slice none 0 0) (.slice none 0 0)
 have A1 := HA0.at_ Q1.out (by simpa using n10)
 have A2 := HA0.at_ Q2.out (by simpa using n20)
 have D1 := set7_heap (.int .i64 2) (.int .i64 1) (.string ⟨#[102]⟩) (.int .i64 1) (.int .i64 0) (.slice none 0 0) (.slice (some ⟨gs, 0, none⟩) 1 1) A1
 have HD1 := Chg.set7 (Chg.refl [g1] (((((((w5.setCell ⟨g0, 0, none⟩ (.int .i64 1)).setCell ⟨g0, 1, none⟩ (.int .i64 1)).setCell ⟨g0, 2, none⟩ (.string ⟨#[102]⟩)).setCell ⟨g0, 3, none⟩ (.int .i64 1)).setCell ⟨g0, 4, none⟩ (.int .i64 0)).setCell ⟨g0, 5, none⟩ (.slice none 0 0)).setCell ⟨g0, 6, none⟩ (.slice none 0 0))) (g := g1) (.inl (by simp)) 0 (.int .i64 2) (.int .i64 1) (.string ⟨#[102]⟩) (.int .i64 1) (.int .i64 0) (.slice none 0 0) (.slice (some ⟨gs, 0, none⟩) 1 1)
 have D0 := HD1.at_ A0 (by simpa using n01)
 have D2 := HD1.at_ A2 (by simpa using n21)
 have E2 := set7_heap (.int .i64 3) (.int .i64 1) (.string ⟨#[102, 47, 103]⟩) (.int .i64 1) (.int .i64 0) (.slice none 0 0) (.slice none 0 0) D2
 have HE2 := Chg.set7 (Chg.refl [g2] ((((((((((((((w5.setCell ⟨g0, 0, none⟩ (.int .i64 1)).setCell ⟨g0, 1, none⟩ (.int .i64 1)).setCell ⟨g0, 2, none⟩ (.string ⟨#[102]⟩)).setCell ⟨g0, 3, none⟩ (.int .i64 1)).setCell ⟨g0, 4, none⟩ (.int .i64 0)).setCell ⟨g0, 5, none⟩ (.slice none 0 0)).setCell ⟨g0, 6, none⟩ (.slice none 0 0)).setCell ⟨g1, 0, none⟩ (.int .i64 2)).setCell ⟨g1, 1, none⟩ (.int .i64 1)).setCell ⟨g1, 2, none⟩ (.string ⟨#[102]⟩)).setCell ⟨g1, 3, none⟩ (.int .i64 1)).setCell ⟨g1, 4, none⟩ (.int .i64 0)).setCell ⟨g1, 5, none⟩ (.slice none 0 0)).setCell ⟨g1, 6, none⟩ (.slice (some ⟨gs, 0, none⟩) 1 1))) (g := g2) (.inl (by simp)) 0 (.int .i64 3) (.int .i64 1) (.string ⟨#[102, 47, 103]⟩) (.int .i64 1) (.int .i64 0) (.slice none 0 0) (.slice none 0 0)
 have E0 := HE2.at_ D0 (by simpa using n02)
 have E1 := HE2.at_ D1 (by simpa using n12)
 have CF := ((HA0.mono (S' := [g0, g1, g2]) (by simp)).trans (HD1.mono (by simp))).trans (HE2.mono (by simp))
 clear HA0 A0 A1 A2 D1 HD1 D0 D2 HE2
 simp only [Nat.zero_add] at *
 generalize (((((((((((((((((((((w5.setCell ⟨g0, 0, none⟩ (.int .i64 1)).setCell ⟨g0, 1, none⟩ (.int .i64 1)).setCell ⟨g0, 2, none⟩ (.string ⟨#[102]⟩)).setCell ⟨g0, 3, none⟩ (.int .i64 1)).setCell ⟨g0, 4, none⟩ (.int .i64 0)).setCell ⟨g0, 5, none⟩ (.slice none 0 0)).setCell ⟨g0, 6, none⟩ (.slice none 0 0)).setCell ⟨g1, 0, none⟩ (.int .i64 2)).setCell ⟨g1, 1, none⟩ (.int .i64 1)).setCell ⟨g1, 2, none⟩ (.string ⟨#[102]⟩)).setCell ⟨g1, 3, none⟩ (.int .i64 1)).setCell ⟨g1, 4, none⟩ (.int .i64 0)).setCell ⟨g1, 5, none⟩ (.slice none 0 0)).setCell ⟨g1, 6, none⟩ (.slice (some ⟨gs, 0, none⟩) 1 1)).setCell ⟨g2, 0, none⟩ (.int .i64 3)).setCell ⟨g2, 1, none⟩ (.int .i64 1)).setCell ⟨g2, 2, none⟩ (.string ⟨#[102, 47, 103]⟩)).setCell ⟨g2, 3, none⟩ (.int .i64 1)).setCell ⟨g2, 4, none⟩ (.int .i64 0)).setCell ⟨g2, 5, none⟩ (.slice none 0 0)).setCell ⟨g2, 6, none⟩ (.slice none 0 0)) = w6 at *
 have y00 := cell_of E0 0
 have y01 := cell_of E0 1
 have y02 := cell_of E0 2
 have y03 := cell_of E0 3
 have y04 := cell_of E0 4
 have y05 := cell_of E0 5
 have y06 := cell_of E0 6
 have y10 := cell_of E1 0
 have y11 := cell_of E1 1
 have y12 := cell_of E1 2
 have y13 := cell_of E1 3
 have y14 := cell_of E1 4
 have y15 := cell_of E1 5
 have y16 := cell_of E1 6
 have y20 := cell_of E2 0
 have y21 := cell_of E2 1
 have y22 := cell_of E2 2
 have y23 := cell_of E2 3
 have y24 := cell_of E2 4
 have y25 := cell_of E2 5
 have y26 := cell_of E2 6
 simp only [List.getElem?_toArray, List.getElem?_cons_succ, List.getElem?_cons_zero] at y00 y01 y02 y03 y04 y05 y06 y10 y11 y12 y13 y14 y15 y16 y20 y21 y22 y23 y24 y25 y26
 refine bodyPost_ret (v := .tuple #[.agg #[.int .i64 1, .int .i64 1, .string ⟨#[102]⟩, .int .i64 1, .int .i64 0, .slice none 0 0, .slice none 0 0], .agg #[.int .i64 2, .int .i64 1, .string ⟨#[102]⟩, .int .i64 1, .int .i64 0, .slice none 0 0, .slice (some ⟨gs, 0, none⟩) 1 1], .agg #[.int .i64 3, .int .i64 1, .string ⟨#[102, 47, 103]⟩, .int .i64 1, .int .i64 0, .slice none 0 0, .slice none 0 0]]) (by simp [results, Tryz.results43, go_sem, y00, y01, y02, y03, y04, y05, y06, y10, y11, y12, y13, y14, y15, y16, y20, y21, y22, y23, y24, y25, y26]) rfl ?_
 have RS6 := RS5.out.chg CF (fun a ha => by cases ha; have := NG.out; simp; omega)
 exact ⟨⟨1, 1, ⟨#[102]⟩, 1, 0, none, 0, 0, none, 0, 0⟩, ⟨2, 1, ⟨#[102]⟩, 1, 0, none, 0, 0, some ⟨gs, 0, none⟩, 1, 1⟩, ⟨3, 1, ⟨#[102, 47, 103]⟩, 1, 0, none, 0, 0, none, 0, 0⟩, rfl, ⟨rfl, rfl, rfl, rfl, rfl, rfl, rfl, Bs.nil _ _, RdK.nil _ _⟩, ⟨rfl, rfl, rfl, rfl, rfl, rfl, rfl, Bs.nil _ _, RS6⟩, ⟨rfl, rfl, rfl, rfl, rfl, rfl, rfl, Bs.nil _ _, RdK.nil _ _⟩, (C1.out.trans C5.out).trans' CF (fun z hz => .inr (by have := NE.out; simp at hz; omega))⟩
end
section
open Go.RowKit
set_option maxRecDepth 100000 in
set_option maxHeartbeats 2000000 in
theorem sametexts_any (w : World) (A B : Option Addr) (c d : Nat) (xs ys : List (List UInt8)) (h : RdK textTy w A xs.length xs) (h' : RdK textTy w B ys.length ys) (hx : xs.length ≤ 140737488351232) (hy : ys.length ≤ 140737488351232) :
  Calls Tryz.prog 27 #[.slice A xs.length c, .slice B ys.length d] w fun e w' => e = .returned (.bool (xs == ys)) ∧ Chg [] w w' := by
 have HA := Lib.hid h
 have HB := Lib.hid h'
 clear h h'
 obtain ⟨R, hR⟩ : ∃ R, (xs == ys) = R := ⟨_, rfl⟩
 rw [hR]
 have HR := Lib.hid hR
 clear hR
 by_cases hne : xs.length = ys.length
 ·
  have hb : ((xs.length : Int) == (ys.length : Int)) = true := by simp; omega
  have HN := Lib.hid hne
  clear hne
  go_enter Tryz.func27, Tryz.ntmps27
  go_wp2
  go_loopw [5] (fun v5 wr => ∃ k : Nat, k ≤ xs.length ∧ v5 = .int .i64 (k : Int) ∧ Hid (xs.take k = ys.take k ∧ Chg [] w wr)) (fun v5 _ => xs.length - (RowKit.intOf v5).toNat)
  case atStart => exact ⟨0, Nat.zero_le _, rfl, rfl, Chg.refl _ _⟩
  case round =>
   obtain ⟨k, hk, rfl, HI⟩ := hrel
   have k1 : IntKind.i64.wrap ((k : Int) + 1) = (k : Int) + 1 := IntWalk.i64_in _ (by omega)
   have i0 : (0 : Int) ≤ (k : Int) := by omega
   by_cases hlt : k < xs.length
   ·
    have hlt2 : k < ys.length := by have := HN.out; omega
    have i1 : (k : Int) < (xs.length : Int) := by omega
    have i2 : (k : Int) < (ys.length : Int) := by omega
    obtain ⟨g, o, eA, _⟩ := HA.out.line (by omega)
    subst eA
    obtain ⟨g2, o2, eB, _⟩ := HB.out.line (by omega)
    subst eB
    have ex := List.getElem?_eq_getElem hlt
    have z := textCells (HA.out.chg HI.out.2 (by simp)) ex
    have ey := List.getElem?_eq_getElem hlt2
    have z2 := textCells (HB.out.chg HI.out.2 (by simp)) ey
    generalize xs[k] = x at *
    generalize ys[k] = y at *
    have HE := Lib.hid (And.intro ex ey)
    clear ex ey
    by_cases hxy : x = y
    ·
     subst hxy
     have h1 : (x == x) = true := by simp
     go_wp2
     go_quiet (fail)
     go_wp2
     refine ⟨⟨k + 1, by omega, by simp, Lib.hid ⟨?_, HI.out.2.drewN _⟩⟩, by simp [RowKit.intOf]; omega⟩
     rw [List.take_add_one, List.take_add_one, HI.out.1, HE.out.1, HE.out.2]
    ·
     have h1 : (x == y) = false := by simpa using hxy
     have h2 := str_ne hxy
     have HF := Lib.hid (show R = false by
      rw [← HR.out, beq_eq_false_iff_ne]
      intro e
      have h3 := HE.out.1
      rw [e, HE.out.2] at h3
      exact hxy (Option.some.inj h3).symm)
     go_wp2
     go_quiet (fail)
     go_wp2
     go_ret
     exact ⟨congrArg (fun v => Ending.returned (Value.bool v)) HF.out.symm, HI.out.2.drewN _⟩
   ·
    obtain rfl : k = xs.length := by omega
    have HF := Lib.hid (show R = true by
     have h3 := HI.out.1
     rw [List.take_length, HN.out, List.take_length] at h3
     rw [← HR.out, h3]
     simp)
    have i1 : ¬ ((xs.length : Int) < (xs.length : Int)) := by omega
    go_wp2
    go_ret
    exact ⟨congrArg (fun v => Ending.returned (Value.bool v)) HF.out.symm, HI.out.2⟩
 ·
  have hb : ((xs.length : Int) == (ys.length : Int)) = false := by simp; omega
  have hb2 : ¬ ((xs.length : Int) = (ys.length : Int)) := by omega
  have HF := Lib.hid (show R = false by
   rw [← HR.out, beq_eq_false_iff_ne]
   intro e
   exact hne (by rw [e]))
  go_enter Tryz.func27, Tryz.ntmps27
  go_wp2
  go_ret
  exact ⟨congrArg (fun v => Ending.returned (Value.bool v)) HF.out.symm, Chg.refl _ _⟩
end
section
open Go.RowKit Go.Lib


theorem joinS4 {α β γ δ : Type} {F R : α → β → γ → δ → Prop} {G : Prop} (h1 : (∀ a b c d, F a b c d → R a b c d) → G) (h2 : ∀ a b c d, F a b c d → R a b c d) : G := h1 h2
theorem joinS5 {α β γ δ ε : Type} {F R : α → β → γ → δ → ε → Prop} {G : Prop} (h1 : (∀ a b c d e, F a b c d e → R a b c d e) → G) (h2 : ∀ a b c d e, F a b c d e → R a b c d e) : G := h1 h2
theorem rd_twoS {w : World} {g : Nat} {x y : EvT} (h : w.heap[g]? = some (.cells #[.int .i64 x.n, .int .i64 x.s, .string x.p, .int .i64 x.k, .int .i64 x.m, .slice x.A x.l x.c, .slice x.B x.bl x.bc, .int .i64 y.n, .int .i64 y.s, .string y.p, .int .i64 y.k, .int .i64 y.m, .slice y.A y.l y.c, .slice y.B y.bl y.bc] 30)) : RdK evTy w (some ⟨g, 0, none⟩) 2 [x, y] :=
 ⟨rfl, fun j v hj => ⟨_, rfl, by rw [add_zero_lit, cell_of h j]; simpa [RowTy.flat, evTy] using hj⟩⟩
set_option maxRecDepth 100000 in
set_option maxHeartbeats 32000000 in
theorem l10awake_run (w : World) : Calls Tryz.prog 8 #[] w fun e w' => e = .returned (.bool true) ∧ Chg [] w w' := by

 have C0 := Lib.hid (Chg.refl [] w)
 go_enter Tryz.func8, Tryz.ntmps8
 go_wp2_with fail
 refine (l10three_any w).mono ?_
 rintro r w1 ⟨X, Y, Z, rfl, ex, ey, ez, hc⟩
 obtain ⟨w2, hw2, c2, b1, b2, b3⟩ := news3 w1 (.cells #[.int .i64 X.n, .int .i64 X.s, .string X.p, .int .i64 X.k, .int .i64 X.m, .slice X.A X.l X.c, .slice X.B X.bl X.bc] 30) (.cells #[.int .i64 Y.n, .int .i64 Y.s, .string Y.p, .int .i64 Y.k, .int .i64 Y.m, .slice Y.A Y.l Y.c, .slice Y.B Y.bl Y.bc] 30) (.cells #[.int .i64 Z.n, .int .i64 Z.s, .string Z.p, .int .i64 Z.k, .int .i64 Z.m, .slice Z.A Z.l Z.c, .slice Z.B Z.bl Z.bc] 30)
 have W2 := Lib.hid hw2
 have HX := Lib.hid (fun (w' : World) (k : Chg [] w2 w') => ex.chg (c2.trans k))
 have HY := Lib.hid (fun (w' : World) (k : Chg [] w2 w') => ey.chg (c2.trans k))
 have HZ := Lib.hid (fun (w' : World) (k : Chg [] w2 w') => ez.chg (c2.trans k))
 have C2 := Lib.hid (hc.trans c2)
 have B1 := Lib.hid b1
 have B2 := Lib.hid b2
 have B3 := Lib.hid b3
 clear hw2 c2 b1 b2 b3 hc ex ey ez
 go_upto_region 2 with fail
 rw [← W2.out]
 obtain ⟨g1, h1⟩ : ∃ g, w1.heap.size = g := ⟨_, rfl⟩
 obtain ⟨g2, h2⟩ : ∃ g, g1 + 1 = g := ⟨_, rfl⟩
 obtain ⟨g3, h3⟩ : ∃ g, g2 + 1 = g := ⟨_, rfl⟩
 rw [show w1.heap.size + 2 = w1.heap.size + 1 + 1 from rfl] at B3
 rw [h1] at B1 B2 B3 ⊢
 rw [h2] at B2 B3 ⊢
 rw [h3] at B3 ⊢
 clear h1 h2 h3 W2
 have HB1 : Hid (∀ w', Chg [] w2 w' → w'.cell? ⟨g1, 0, none⟩ = some (.int .i64 X.n) ∧ w'.cell? ⟨g1, 1, none⟩ = some (.int .i64 X.s) ∧ w'.cell? ⟨g1, 2, none⟩ = some (.string X.p) ∧ w'.cell? ⟨g1, 3, none⟩ = some (.int .i64 X.k) ∧ w'.cell? ⟨g1, 4, none⟩ = some (.int .i64 X.m) ∧ w'.cell? ⟨g1, 5, none⟩ = some (.slice X.A X.l X.c) ∧ w'.cell? ⟨g1, 6, none⟩ = some (.slice X.B X.bl X.bc)) := Lib.hid (fun w' hc => by
  have q := hc.at_ B1.out (by simp)
  exact ⟨cell_of q 0, cell_of q 1, cell_of q 2, cell_of q 3, cell_of q 4, cell_of q 5, cell_of q 6⟩)
 have HB2 : Hid (∀ w', Chg [] w2 w' → w'.cell? ⟨g2, 0, none⟩ = some (.int .i64 Y.n) ∧ w'.cell? ⟨g2, 1, none⟩ = some (.int .i64 Y.s) ∧ w'.cell? ⟨g2, 2, none⟩ = some (.string Y.p) ∧ w'.cell? ⟨g2, 3, none⟩ = some (.int .i64 Y.k) ∧ w'.cell? ⟨g2, 4, none⟩ = some (.int .i64 Y.m) ∧ w'.cell? ⟨g2, 5, none⟩ = some (.slice Y.A Y.l Y.c) ∧ w'.cell? ⟨g2, 6, none⟩ = some (.slice Y.B Y.bl Y.bc)) := Lib.hid (fun w' hc => by
  have q := hc.at_ B2.out (by simp)
  exact ⟨cell_of q 0, cell_of q 1, cell_of q 2, cell_of q 3, cell_of q 4, cell_of q 5, cell_of q 6⟩)
 have HB3 : Hid (∀ w', Chg [] w2 w' → w'.cell? ⟨g3, 0, none⟩ = some (.int .i64 Z.n) ∧ w'.cell? ⟨g3, 1, none⟩ = some (.int .i64 Z.s) ∧ w'.cell? ⟨g3, 2, none⟩ = some (.string Z.p) ∧ w'.cell? ⟨g3, 3, none⟩ = some (.int .i64 Z.k) ∧ w'.cell? ⟨g3, 4, none⟩ = some (.int .i64 Z.m) ∧ w'.cell? ⟨g3, 5, none⟩ = some (.slice Z.A Z.l Z.c) ∧ w'.cell? ⟨g3, 6, none⟩ = some (.slice Z.B Z.bl Z.bc)) := Lib.hid (fun w' hc => by
  have q := hc.at_ B3.out (by simp)
  exact ⟨cell_of q 0, cell_of q 1, cell_of q 2, cell_of q 3, cell_of q 4, cell_of q 5, cell_of q 6⟩)
 have D := Lib.hid (Chg.refl [] w2)
 clear B1 B2 B3
 obtain ⟨z0, z1, z2, z3, z4, z5, z6⟩ := HB3.out _ D.out
 have PU := stput_any w2 none 0 [] [] Z s3E (RdK.nil _ _) ⟨by simp, by simp [maxLen]⟩ (.inl rfl) (EvsR.nil _) (by simp) (by simp) (HZ.out _ D.out) (s_sm _ (by simp))
 rw [s_put0] at PU
 simp only [List.length_nil] at PU
 have PU2 := Lib.hid PU
 clear PU
 go_wp2_with fail
 clear z0 z1 z2 z3 z4 z5 z6
 refine PU2.out.mono ?_
 rintro r w3 ⟨Aa, ca, za, rfl, he, hc⟩
 clear PU2
 replace D := Lib.hid (D.out.trans hc)
 have Ra := Lib.hid he.row.reads
 have Ea := Lib.hid he.all.ev
 have Pa := Lib.hid he.row.cap
 have Fa : Hid (∀ a, Aa = some a → a.block < w3.heap.size) := Lib.hid (fun a ha => (he.rowAt a ha).2)
 clear hc he
 obtain ⟨z0, z1, z2, z3, z4, z5, z6⟩ := HB1.out _ D.out
 have PU := stput_any w3 Aa ca za [s3E] X s1E Ra.out Pa.out (.inr Fa.out) Ea.out (by have a := Ea.out.1; simp at a; omega) s_sms (HX.out _ D.out) (s_sm _ (by simp))
 rw [s_put1] at PU
 have PU2 := Lib.hid PU
 clear PU
 go_wp2_with fail
 clear z0 z1 z2 z3 z4 z5 z6
 refine PU2.out.mono ?_
 rintro r w4 ⟨Ab, cb, zb, rfl, he, hc⟩
 clear PU2
 replace D := Lib.hid (D.out.trans hc)
 replace Ra := Lib.hid (Ra.out.chg hc (by simp))
 replace Ea := Lib.hid (Ea.out.chg hc)
 replace Fa := Lib.hid (fun a ha => Nat.lt_of_lt_of_le (Fa.out a ha) hc.size)
 have Rb := Lib.hid he.row.reads
 have Eb := Lib.hid he.all.ev
 have Pb := Lib.hid he.row.cap
 have Fb : Hid (∀ a, Ab = some a → a.block < w4.heap.size) := Lib.hid (fun a ha => (he.rowAt a ha).2)
 clear hc he
 clear Ra Ea Pa Fa
 obtain ⟨z0, z1, z2, z3, z4, z5, z6⟩ := HB2.out _ D.out
 have PU := stput_any w4 Ab cb zb [s1E, s3E] Y s2E Rb.out Pb.out (.inr Fb.out) Eb.out (by have a := Eb.out.1; simp at a; omega) s_sms (HY.out _ D.out) (s_sm _ (by simp))
 rw [s_put2] at PU
 have PU2 := Lib.hid PU
 clear PU
 go_wp2_with fail
 clear z0 z1 z2 z3 z4 z5 z6
 refine PU2.out.mono ?_
 rintro r w5 ⟨Ac, cc, zc, rfl, he, hc⟩
 clear PU2
 replace D := Lib.hid (D.out.trans hc)
 replace Rb := Lib.hid (Rb.out.chg hc (by simp))
 replace Eb := Lib.hid (Eb.out.chg hc)
 replace Fb := Lib.hid (fun a ha => Nat.lt_of_lt_of_le (Fb.out a ha) hc.size)
 have Rc := Lib.hid he.row.reads
 have Ec := Lib.hid he.all.ev
 have Pc := Lib.hid he.row.cap
 have Fc : Hid (∀ a, Ac = some a → a.block < w5.heap.size) := Lib.hid (fun a ha => (he.rowAt a ha).2)
 clear hc he
 have KN := stknownf_any w5 Ac cc zc [s2E, s3E] Rc.out Pc.out.1 (.inr Fc.out) Ec.out (by have a := Ec.out.1; simp at a; omega) (fun e he => (s_sms (by simp) e he).1)
 rw [s_known] at KN
 have KN2 := Lib.hid KN
 clear KN
 go_wp2_with fail
 refine KN2.out.mono ?_
 rintro r w6 ⟨Ak, ck, rfl, ho, hc⟩
 clear KN2
 replace D := Lib.hid (D.out.trans hc)
 replace Rb := Lib.hid (Rb.out.chg hc (by simp))
 replace Eb := Lib.hid (Eb.out.chg hc)
 replace Fb := Lib.hid (fun a ha => Nat.lt_of_lt_of_le (Fb.out a ha) hc.size)
 replace Rc := Lib.hid (Rc.out.chg hc (by simp))
 replace Ec := Lib.hid (Ec.out.chg hc)
 replace Fc := Lib.hid (fun a ha => Nat.lt_of_lt_of_le (Fc.out a ha) hc.size)
 have RK := Lib.hid ho.reads
 clear ho hc
 have LB : Hid (zb.length = 2) := Lib.hid Eb.out.1
 have LC : Hid (zc.length = 2) := Lib.hid Ec.out.1
 have PT : Hid (∀ w', Chg [] w6 w' → Calls Tryz.prog 28 #[.slice Ab zb.length cb] w' fun r w2 => ∃ (B : Option Addr) (d : Nat), r = .returned (.slice B 2 d) ∧ RdK textTy w2 B 2 [[102], [102, 47, 103]] ∧ Chg [] w' w2) := Lib.hid (fun w' hc => by
  have q := stpaths_any w' Ab cb zb [s1E, s3E] (Rb.out.chg hc (by simp)) Pb.out.1 (.inr (fun a ha => Nat.lt_of_lt_of_le (Fb.out a ha) hc.size)) (Eb.out.chg hc) (by have := LB.out; omega) (fun e he => (s_sms (by simp) e he).1)
  rw [s_paths] at q
  exact q)
 have SHF : Hid (∀ w', Chg [] w6 w' → Calls Tryz.prog 21 #[.slice Ac zc.length cc, .string ⟨#[102]⟩] w' fun r w2 => ∃ (A' : Option Addr) (c' : Nat) (zs : List EvT), r = .returned (.slice A' zs.length c') ∧ EsF w2 w'.heap.size w2.heap.size A' c' zs [s2E] ∧ Chg [] w' w2) := Lib.hid (fun w' hc => by
  have q := stshelf_any w' Ac cc zc [s2E, s3E] [102] (Rc.out.chg hc (by simp)) (Ec.out.chg hc) (by have := LC.out; omega) s_sms
  rw [s_shelf] at q
  exact q)
 have NEA : Hid (∀ w', Chg [] w6 w' → Calls Tryz.prog 22 #[.slice Ac zc.length cc, .string ⟨#[102, 47, 103]⟩] w' fun r w2 => ∃ (A' : Option Addr) (c' : Nat) (zs : List EvT), r = .returned (.slice A' zs.length c') ∧ EsF w2 w'.heap.size w2.heap.size A' c' zs [s2E, s3E] ∧ Chg [] w' w2) := Lib.hid (fun w' hc => by
  have q := stnear_any w' Ac cc zc [s2E, s3E] [102, 47, 103] (Rc.out.chg hc (by simp)) (Ec.out.chg hc) (by have := LC.out; omega) (by simp) s_sms
  rw [s_near] at q
  exact q)
 go_upto_region 6 with fail
 refine wp_region_held_drew (S := fun w' => Chg [] w6 w') (by kernel_rfl) (Chg.refl [] w6).drew (fun hHeld => ?_)
 have C := Lib.hid hHeld
 clear hHeld
 obtain ⟨wc, hwc⟩ : ∃ wc, w6.drew = wc := ⟨_, rfl⟩
 rw [hwc] at C ⊢
 clear hwc
 have hHeld := C.out
 have C6 := C
 refine' joinS4 (F := fun (px : Nat) (B : Option Addr) (d : Nat) (wc : World) => Hid (Chg [] w6 wc)) (R := _) (fun JOIN => ?leaf) ?rest
 case leaf =>
  refine sy 0 38 rfl rfl ?_
  try simp only [Act.put, sA, s0, s1]
  refine sy 1 39 rfl rfl ?_
  try simp only [Act.put, sA, s0, s1]
  refine sy 2 40 rfl rfl ?_
  try simp only [Act.put, sA, s0, s1]
  refine sy 3 41 rfl rfl ?_
  try simp only [Act.put, sA, s0, s1]
  refine sy 4 42 rfl rfl ?_
  try simp only [Act.put, sA, s0, s1]
  refine sy 5 43 rfl rfl ?_
  try simp only [Act.put, sA, s0, s1]
  refine sy 6 44 rfl rfl ?_
  try simp only [Act.put, sA, s0, s1]
  refine sy 7 45 rfl rfl ?_
  try simp only [Act.put, sA, s0, s1]
  refine wpAnyH_ready (rs := [8, 9]) (by kernel_rfl) (by simp) ?_
  refine AllReadyH.cons rfl (fun K hK => ?_) (AllReadyH.cons rfl (fun K hK => ?_) AllReadyH.nil)
  ·
   skip
   replace hK := Lib.hid hK
   go_simp
   refine (PT.out _ C.out).mono ?_
   rintro r wc ⟨B, d, rfl, hr, hc⟩
   have RB := Lib.hid hr
   clear hr
   try replace XR := Lib.hid (XR.out.chg hc (by simp))
   replace C := Lib.hid (C.out.trans hc)
   clear hc
   refine hK.out _ _ C.out (fun hHeld => ?_)
   clear hK K
   try simp only [Act.put, sA, s0, s1]
   refine wpAnyH_ready (rs := [9]) (by kernel_rfl) (by simp) ?_
   refine AllReadyH.cons rfl (fun K hK => ?_) AllReadyH.nil
   replace hK := Lib.hid hK
   go_simp
   skip
   obtain ⟨px, hp⟩ : ∃ p, wc.heap.size = p := ⟨_, rfl⟩
   obtain ⟨wc, hw, hcn, hb⟩ := news1 wc (.cells #[.string ⟨#[102]⟩, .string ⟨#[102, 47, 103]⟩] 9)
   rw [← hw, hp]
   rw [hp] at hb
   have XR : Hid (RdK textTy wc (some ⟨px, 0, none⟩) 2 [[102], [102, 47, 103]]) := Lib.hid (rd_text (xs := [[102], [102, 47, 103]]) hb (by simp [maxLen]))
   try replace RB := Lib.hid (RB.out.chg hcn (by simp))
   replace C := Lib.hid (C.out.trans hcn)
   clear hw hcn hb hp
   refine hK.out _ _ C.out (fun hHeld => ?_)
   clear hK K
   try simp only [Act.put, sA, s0, s1]
   refine wpAnyH_ready (rs := [10]) (by kernel_rfl) (by simp) ?_
   refine AllReadyH.cons rfl (fun K hK => ?_) AllReadyH.nil
   replace hK := Lib.hid hK
   go_simp
   refine (sametexts_any wc B _ d 2 [[102], [102, 47, 103]] [[102], [102, 47, 103]] RB.out XR.out (by simp) (by simp)).mono ?_
   rintro r wc ⟨rfl, hc⟩
   rw [beq_self_eq_true]
   replace C := Lib.hid (C.out.trans hc)
   clear hc
   refine hK.out _ _ C.out (fun hHeld => ?_)
   clear hK K
   try simp only [Act.put, sA, s0, s1]
   refine sy 11 49 rfl rfl ?_
   try simp only [Act.put, sA, s0, s1]
   exact JOIN px B d wc C
  ·
   skip
   replace hK := Lib.hid hK
   go_simp
   skip
   obtain ⟨px, hp⟩ : ∃ p, wc.heap.size = p := ⟨_, rfl⟩
   obtain ⟨wc, hw, hcn, hb⟩ := news1 wc (.cells #[.string ⟨#[102]⟩, .string ⟨#[102, 47, 103]⟩] 9)
   rw [← hw, hp]
   rw [hp] at hb
   have XR : Hid (RdK textTy wc (some ⟨px, 0, none⟩) 2 [[102], [102, 47, 103]]) := Lib.hid (rd_text (xs := [[102], [102, 47, 103]]) hb (by simp [maxLen]))
   try replace RB := Lib.hid (RB.out.chg hcn (by simp))
   replace C := Lib.hid (C.out.trans hcn)
   clear hw hcn hb hp
   refine hK.out _ _ C.out (fun hHeld => ?_)
   clear hK K
   try simp only [Act.put, sA, s0, s1]
   refine wpAnyH_ready (rs := [8]) (by kernel_rfl) (by simp) ?_
   refine AllReadyH.cons rfl (fun K hK => ?_) AllReadyH.nil
   replace hK := Lib.hid hK
   go_simp
   refine (PT.out _ C.out).mono ?_
   rintro r wc ⟨B, d, rfl, hr, hc⟩
   have RB := Lib.hid hr
   clear hr
   try replace XR := Lib.hid (XR.out.chg hc (by simp))
   replace C := Lib.hid (C.out.trans hc)
   clear hc
   refine hK.out _ _ C.out (fun hHeld => ?_)
   clear hK K
   try simp only [Act.put, sA, s0, s1]
   refine wpAnyH_ready (rs := [10]) (by kernel_rfl) (by simp) ?_
   refine AllReadyH.cons rfl (fun K hK => ?_) AllReadyH.nil
   replace hK := Lib.hid hK
   go_simp
   refine (sametexts_any wc B _ d 2 [[102], [102, 47, 103]] [[102], [102, 47, 103]] RB.out XR.out (by simp) (by simp)).mono ?_
   rintro r wc ⟨rfl, hc⟩
   rw [beq_self_eq_true]
   replace C := Lib.hid (C.out.trans hc)
   clear hc
   refine hK.out _ _ C.out (fun hHeld => ?_)
   clear hK K
   try simp only [Act.put, sA, s0, s1]
   refine sy 11 49 rfl rfl ?_
   try simp only [Act.put, sA, s0, s1]
   exact JOIN px B d wc C
 case rest =>
  intro px B d wc C
  clear C6 hHeld
  have hHeld := C.out
  refine' joinS5 (F := fun (p : Nat) (A : Option Addr) (c n : Nat) (wc : World) => Hid (Chg [] w6 wc)) (R := _) (fun JOIN => ?leaf) ?rest
  case leaf =>
   refine sy 12 50 rfl rfl ?_
   try simp only [Act.put, sA, s0, s1]
   refine sy 13 51 rfl rfl ?_
   try simp only [Act.put, sA, s0, s1]
   refine sy 14 52 rfl rfl ?_
   try simp only [Act.put, sA, s0, s1]
   refine sy 15 53 rfl rfl ?_
   try simp only [Act.put, sA, s0, s1]
   refine sy 16 54 rfl rfl ?_
   try simp only [Act.put, sA, s0, s1]
   refine sy 17 55 rfl rfl ?_
   try simp only [Act.put, sA, s0, s1]
   refine sy 19 57 rfl rfl ?_ (hy := by (intro w hSw; (try dsimp only at hSw); obtain ⟨q0, q1, q2, q3, q4, q5, q6⟩ := HB2.out _ (D.out.trans hSw); go_simp; try with_reducible rfl))
   try simp only [Act.put, sA, s0, s1]
   refine wpAnyH_ready (rs := [18, 20]) (by kernel_rfl) (by simp) ?_
   refine AllReadyH.cons rfl (fun K hK => ?_) (AllReadyH.cons rfl (fun K hK => ?_) AllReadyH.nil)
   ·
    skip
    replace hK := Lib.hid hK
    go_simp
    refine (SHF.out _ C.out).mono ?_
    rintro r wc ⟨A5, c5, z5, rfl, he, hc⟩
    have R5 := Lib.hid he.row.reads
    have E5 := Lib.hid he.all.ev
    clear he
    try replace XR := Lib.hid (XR.out.chg hc (by simp))
    try replace QX := Lib.hid (QX.out.chg hc)
    replace C := Lib.hid (C.out.trans hc)
    clear hc
    refine hK.out _ _ C.out (fun hHeld => ?_)
    clear hK K
    try simp only [Act.put, sA, s0, s1]
    refine wpAnyH_ready (rs := [20]) (by kernel_rfl) (by simp) ?_
    refine AllReadyH.cons rfl (fun K hK => ?_) AllReadyH.nil
    replace hK := Lib.hid hK
    go_simp
    skip
    obtain ⟨py, hp⟩ : ∃ p, wc.heap.size = p := ⟨_, rfl⟩
    obtain ⟨wc, hw, hcn, hb⟩ := news1 wc (.cells #[.int .i64 Y.n, .int .i64 Y.s, .string Y.p, .int .i64 Y.k, .int .i64 Y.m, .slice Y.A Y.l Y.c, .slice Y.B Y.bl Y.bc] 30)
    rw [← hw, hp]
    rw [hp] at hb
    have XR := Lib.hid (rd_oneEc (X := Y) hb)
    have QX : Hid (EvsR wc [Y] [s2E]) := Lib.hid (by simpa using (EvsR.nil wc).snoc (HY.out wc (D.out.trans (C.out.trans hcn))))
    try replace R5 := Lib.hid (R5.out.chg hcn (by simp))
    try replace E5 := Lib.hid (E5.out.chg hcn)
    replace C := Lib.hid (C.out.trans hcn)
    clear hw hcn hb hp
    refine hK.out _ _ C.out (fun hHeld => ?_)
    clear hK K
    try simp only [Act.put, sA, s0, s1]
    refine wpAnyH_ready (rs := [21]) (by kernel_rfl) (by simp) ?_
    refine AllReadyH.cons rfl (fun K hK => ?_) AllReadyH.nil
    replace hK := Lib.hid hK
    go_simp
    refine (l10is_any wc A5 (some ⟨py, 0, none⟩) c5 1 z5 [Y] [s2E] [s2E] R5.out XR.out E5.out QX.out ⟨by have a := E5.out.1; simp at a; omega, by simp⟩ ⟨fun e he => by have := (s_sms (l := [s2E]) (by simp) e he).2; omega, fun e he => by have := (s_sms (l := [s2E]) (by simp) e he).2; omega⟩).mono ?_
    rintro r wc ⟨rfl, hc⟩
    rw [sameL_refl]
    replace C := Lib.hid (C.out.trans hc)
    clear hc
    refine hK.out _ _ C.out (fun hHeld => ?_)
    clear hK K
    try simp only [Act.put, sA, s0, s1]
    refine sy 22 60 rfl rfl ?_
    try simp only [Act.put, sA, s0, s1]
    obtain ⟨n5, hn5⟩ : ∃ n, z5.length = n := ⟨_, rfl⟩
    rw [hn5]
    exact JOIN py A5 c5 n5 wc C
   ·
    skip
    replace hK := Lib.hid hK
    go_simp
    skip
    obtain ⟨py, hp⟩ : ∃ p, wc.heap.size = p := ⟨_, rfl⟩
    obtain ⟨wc, hw, hcn, hb⟩ := news1 wc (.cells #[.int .i64 Y.n, .int .i64 Y.s, .string Y.p, .int .i64 Y.k, .int .i64 Y.m, .slice Y.A Y.l Y.c, .slice Y.B Y.bl Y.bc] 30)
    rw [← hw, hp]
    rw [hp] at hb
    have XR := Lib.hid (rd_oneEc (X := Y) hb)
    have QX : Hid (EvsR wc [Y] [s2E]) := Lib.hid (by simpa using (EvsR.nil wc).snoc (HY.out wc (D.out.trans (C.out.trans hcn))))
    try replace R5 := Lib.hid (R5.out.chg hcn (by simp))
    try replace E5 := Lib.hid (E5.out.chg hcn)
    replace C := Lib.hid (C.out.trans hcn)
    clear hw hcn hb hp
    refine hK.out _ _ C.out (fun hHeld => ?_)
    clear hK K
    try simp only [Act.put, sA, s0, s1]
    refine wpAnyH_ready (rs := [18]) (by kernel_rfl) (by simp) ?_
    refine AllReadyH.cons rfl (fun K hK => ?_) AllReadyH.nil
    replace hK := Lib.hid hK
    go_simp
    refine (SHF.out _ C.out).mono ?_
    rintro r wc ⟨A5, c5, z5, rfl, he, hc⟩
    have R5 := Lib.hid he.row.reads
    have E5 := Lib.hid he.all.ev
    clear he
    try replace XR := Lib.hid (XR.out.chg hc (by simp))
    try replace QX := Lib.hid (QX.out.chg hc)
    replace C := Lib.hid (C.out.trans hc)
    clear hc
    refine hK.out _ _ C.out (fun hHeld => ?_)
    clear hK K
    try simp only [Act.put, sA, s0, s1]
    refine wpAnyH_ready (rs := [21]) (by kernel_rfl) (by simp) ?_
    refine AllReadyH.cons rfl (fun K hK => ?_) AllReadyH.nil
    replace hK := Lib.hid hK
    go_simp
    refine (l10is_any wc A5 (some ⟨py, 0, none⟩) c5 1 z5 [Y] [s2E] [s2E] R5.out XR.out E5.out QX.out ⟨by have a := E5.out.1; simp at a; omega, by simp⟩ ⟨fun e he => by have := (s_sms (l := [s2E]) (by simp) e he).2; omega, fun e he => by have := (s_sms (l := [s2E]) (by simp) e he).2; omega⟩).mono ?_
    rintro r wc ⟨rfl, hc⟩
    rw [sameL_refl]
    replace C := Lib.hid (C.out.trans hc)
    clear hc
    refine hK.out _ _ C.out (fun hHeld => ?_)
    clear hK K
    try simp only [Act.put, sA, s0, s1]
    refine sy 22 60 rfl rfl ?_
    try simp only [Act.put, sA, s0, s1]
    obtain ⟨n5, hn5⟩ : ∃ n, z5.length = n := ⟨_, rfl⟩
    rw [hn5]
    exact JOIN py A5 c5 n5 wc C
  case rest =>
   intro py A5 c5 n5 wc C
   clear hHeld
   have hHeld := C.out
   refine' joinS5 (F := fun (p : Nat) (A : Option Addr) (c n : Nat) (wc : World) => Hid (Chg [] w6 wc)) (R := _) (fun JOIN => ?leaf) ?rest
   case leaf =>
    refine sy 23 61 rfl rfl ?_
    try simp only [Act.put, sA, s0, s1]
    refine sy 24 62 rfl rfl ?_
    try simp only [Act.put, sA, s0, s1]
    refine sy 26 64 rfl rfl ?_ (hy := by (intro w hSw; (try dsimp only at hSw); obtain ⟨q0, q1, q2, q3, q4, q5, q6⟩ := HB2.out _ (D.out.trans hSw); go_simp; try with_reducible rfl))
    try simp only [Act.put, sA, s0, s1]
    refine sy 27 65 rfl rfl ?_ (hy := by (intro w hSw; (try dsimp only at hSw); obtain ⟨q0, q1, q2, q3, q4, q5, q6⟩ := HB3.out _ (D.out.trans hSw); go_simp; try with_reducible rfl))
    try simp only [Act.put, sA, s0, s1]
    refine wpAnyH_ready (rs := [25, 28]) (by kernel_rfl) (by simp) ?_
    refine AllReadyH.cons rfl (fun K hK => ?_) (AllReadyH.cons rfl (fun K hK => ?_) AllReadyH.nil)
    ·
     skip
     replace hK := Lib.hid hK
     go_simp
     refine (NEA.out _ C.out).mono ?_
     rintro r wc ⟨A7, c7, z7, rfl, he, hc⟩
     have R5 := Lib.hid he.row.reads
     have E5 := Lib.hid he.all.ev
     clear he
     try replace XR := Lib.hid (XR.out.chg hc (by simp))
     try replace QX := Lib.hid (QX.out.chg hc)
     replace C := Lib.hid (C.out.trans hc)
     clear hc
     refine hK.out _ _ C.out (fun hHeld => ?_)
     clear hK K
     try simp only [Act.put, sA, s0, s1]
     refine wpAnyH_ready (rs := [28]) (by kernel_rfl) (by simp) ?_
     refine AllReadyH.cons rfl (fun K hK => ?_) AllReadyH.nil
     replace hK := Lib.hid hK
     go_simp
     skip
     obtain ⟨pz, hp⟩ : ∃ p, wc.heap.size = p := ⟨_, rfl⟩
     obtain ⟨wc, hw, hcn, hb⟩ := news1 wc (.cells #[.int .i64 Y.n, .int .i64 Y.s, .string Y.p, .int .i64 Y.k, .int .i64 Y.m, .slice Y.A Y.l Y.c, .slice Y.B Y.bl Y.bc, .int .i64 Z.n, .int .i64 Z.s, .string Z.p, .int .i64 Z.k, .int .i64 Z.m, .slice Z.A Z.l Z.c, .slice Z.B Z.bl Z.bc] 30)
     rw [← hw, hp]
     rw [hp] at hb
     have XR := Lib.hid (rd_twoS (x := Y) (y := Z) hb)
     have QX : Hid (EvsR wc [Y, Z] [s2E, s3E]) := Lib.hid (by simpa using ((EvsR.nil wc).snoc (HY.out wc (D.out.trans (C.out.trans hcn)))).snoc (HZ.out wc (D.out.trans (C.out.trans hcn))))
     try replace R5 := Lib.hid (R5.out.chg hcn (by simp))
     try replace E5 := Lib.hid (E5.out.chg hcn)
     replace C := Lib.hid (C.out.trans hcn)
     clear hw hcn hb hp
     refine hK.out _ _ C.out (fun hHeld => ?_)
     clear hK K
     try simp only [Act.put, sA, s0, s1]
     refine wpAnyH_ready (rs := [29]) (by kernel_rfl) (by simp) ?_
     refine AllReadyH.cons rfl (fun K hK => ?_) AllReadyH.nil
     replace hK := Lib.hid hK
     go_simp
     refine (l10is_any wc A7 (some ⟨pz, 0, none⟩) c7 2 z7 [Y, Z] [s2E, s3E] [s2E, s3E] R5.out XR.out E5.out QX.out ⟨by have a := E5.out.1; simp at a; omega, by simp⟩ ⟨fun e he => by have := (s_sms (l := [s2E, s3E]) (by simp) e he).2; omega, fun e he => by have := (s_sms (l := [s2E, s3E]) (by simp) e he).2; omega⟩).mono ?_
     rintro r wc ⟨rfl, hc⟩
     rw [sameL_refl]
     replace C := Lib.hid (C.out.trans hc)
     clear hc
     refine hK.out _ _ C.out (fun hHeld => ?_)
     clear hK K
     try simp only [Act.put, sA, s0, s1]
     refine sy 30 68 rfl rfl ?_
     try simp only [Act.put, sA, s0, s1]
     obtain ⟨n7, hn7⟩ : ∃ n, z7.length = n := ⟨_, rfl⟩
     rw [hn7]
     exact JOIN pz A7 c7 n7 wc C
    ·
     skip
     replace hK := Lib.hid hK
     go_simp
     skip
     obtain ⟨pz, hp⟩ : ∃ p, wc.heap.size = p := ⟨_, rfl⟩
     obtain ⟨wc, hw, hcn, hb⟩ := news1 wc (.cells #[.int .i64 Y.n, .int .i64 Y.s, .string Y.p, .int .i64 Y.k, .int .i64 Y.m, .slice Y.A Y.l Y.c, .slice Y.B Y.bl Y.bc, .int .i64 Z.n, .int .i64 Z.s, .string Z.p, .int .i64 Z.k, .int .i64 Z.m, .slice Z.A Z.l Z.c, .slice Z.B Z.bl Z.bc] 30)
     rw [← hw, hp]
     rw [hp] at hb
     have XR := Lib.hid (rd_twoS (x := Y) (y := Z) hb)
     have QX : Hid (EvsR wc [Y, Z] [s2E, s3E]) := Lib.hid (by simpa using ((EvsR.nil wc).snoc (HY.out wc (D.out.trans (C.out.trans hcn)))).snoc (HZ.out wc (D.out.trans (C.out.trans hcn))))
     try replace R5 := Lib.hid (R5.out.chg hcn (by simp))
     try replace E5 := Lib.hid (E5.out.chg hcn)
     replace C := Lib.hid (C.out.trans hcn)
     clear hw hcn hb hp
     refine hK.out _ _ C.out (fun hHeld => ?_)
     clear hK K
     try simp only [Act.put, sA, s0, s1]
     refine wpAnyH_ready (rs := [25]) (by kernel_rfl) (by simp) ?_
     refine AllReadyH.cons rfl (fun K hK => ?_) AllReadyH.nil
     replace hK := Lib.hid hK
     go_simp
     refine (NEA.out _ C.out).mono ?_
     rintro r wc ⟨A7, c7, z7, rfl, he, hc⟩
     have R5 := Lib.hid he.row.reads
     have E5 := Lib.hid he.all.ev
     clear he
     try replace XR := Lib.hid (XR.out.chg hc (by simp))
     try replace QX := Lib.hid (QX.out.chg hc)
     replace C := Lib.hid (C.out.trans hc)
     clear hc
     refine hK.out _ _ C.out (fun hHeld => ?_)
     clear hK K
     try simp only [Act.put, sA, s0, s1]
     refine wpAnyH_ready (rs := [29]) (by kernel_rfl) (by simp) ?_
     refine AllReadyH.cons rfl (fun K hK => ?_) AllReadyH.nil
     replace hK := Lib.hid hK
     go_simp
     refine (l10is_any wc A7 (some ⟨pz, 0, none⟩) c7 2 z7 [Y, Z] [s2E, s3E] [s2E, s3E] R5.out XR.out E5.out QX.out ⟨by have a := E5.out.1; simp at a; omega, by simp⟩ ⟨fun e he => by have := (s_sms (l := [s2E, s3E]) (by simp) e he).2; omega, fun e he => by have := (s_sms (l := [s2E, s3E]) (by simp) e he).2; omega⟩).mono ?_
     rintro r wc ⟨rfl, hc⟩
     rw [sameL_refl]
     replace C := Lib.hid (C.out.trans hc)
     clear hc
     refine hK.out _ _ C.out (fun hHeld => ?_)
     clear hK K
     try simp only [Act.put, sA, s0, s1]
     refine sy 30 68 rfl rfl ?_
     try simp only [Act.put, sA, s0, s1]
     obtain ⟨n7, hn7⟩ : ∃ n, z7.length = n := ⟨_, rfl⟩
     rw [hn7]
     exact JOIN pz A7 c7 n7 wc C
   case rest =>
    intro pz A7 c7 n7 wc C
    clear hHeld
    have hHeld := C.out
    refine sy 31 69 rfl rfl ?_
    try simp only [Act.put, sA, s0, s1]
    refine sy 32 70 rfl rfl ?_
    try simp only [Act.put, sA, s0, s1]
    refine sy 33 71 rfl rfl ?_
    try simp only [Act.put, sA, s0, s1]
    refine sy 34 72 rfl rfl ?_
    try simp only [Act.put, sA, s0, s1]
    refine sy 35 73 rfl rfl ?_
    try simp only [Act.put, sA, s0, s1]
    refine sy 36 74 rfl rfl ?_
    try simp only [Act.put, sA, s0, s1]
    refine sy 37 75 rfl rfl ?_
    try simp only [Act.put, sA, s0, s1]
    refine sy 38 76 rfl rfl ?_
    try simp only [Act.put, sA, s0, s1]
    refine wpAnyH_ready (rs := [39]) (by kernel_rfl) (by simp) ?_
    refine AllReadyH.cons rfl (fun K hK => ?_) AllReadyH.nil
    replace hK := Lib.hid hK
    go_simp
    skip
    obtain ⟨ps, hp⟩ : ∃ p, wc.heap.size = p := ⟨_, rfl⟩
    obtain ⟨wc, hw, hcn, hb⟩ := news1 wc (.cells #[.int .i64 2, .int .i64 1, .int .i64 1, .int .i64 3, .int .i64 1, .int .i64 1] 72)
    rw [← hw, hp]
    rw [hp] at hb
    have XR : Hid (RdK spanTy wc (some ⟨ps, 0, none⟩) 2 [(2, 1, 1), (3, 1, 1)]) := Lib.hid ⟨rfl, fun j v hj => ⟨_, rfl, by rw [add_zero_lit, cell_of hb j]; simpa [RowTy.flat, spanTy] using hj⟩⟩
    replace C := Lib.hid (C.out.trans hcn)
    clear hw hcn hb hp
    refine hK.out _ _ C.out (fun hHeld => ?_)
    clear hK K
    try simp only [Act.put, sA, s0, s1]
    refine wpAnyH_ready (rs := [40]) (by kernel_rfl) (by simp) ?_
    refine AllReadyH.cons rfl (fun K hK => ?_) AllReadyH.nil
    replace hK := Lib.hid hK
    go_simp
    refine (samespan_any wc Ak _ 2 2 ck 2 _ _ (RK.out.chg C.out (by simp)) XR.out (by omega) (by omega)).mono ?_
    rintro r wc ⟨rfl, hc⟩
    rw [beq_self_eq_true]
    replace C := Lib.hid (C.out.trans hc)
    clear hc
    refine hK.out _ _ C.out (fun hHeld => ?_)
    clear hK K
    try simp only [Act.put, sA, s0, s1]
    refine sy 41 79 rfl rfl ?_
    try simp only [Act.put, sA, s0, s1]
    refine sy 42 0 rfl rfl ?_
    try simp only [Act.put, sA, s0, s1]
    refine wpAnyH_done (by kernel_rfl) ?_ _
    clear hHeld
    go_wp2
    go_ret
    exact ⟨rfl, C0.out.trans (C2.out.trans (D.out.trans C.out))⟩
end
section
open Go.RowKit Go.Lib


def evW0 (e : EvP) : List UInt8 × Int := wNum [] 0 e.n
def evW1 (e : EvP) : List UInt8 × Int := wNum (evW0 e).1 (evW0 e).2 e.s
def evW2 (e : EvP) : List UInt8 × Int := wRaw (evW1 e).1 (evW1 e).2 e.p
def evW3 (e : EvP) : List UInt8 × Int := wRaw (evW2 e).1 (evW2 e).2 (effO e.k e.m e.b)
def evW4 (e : EvP) : List UInt8 × Int := wRaw (evW3 e).1 (evW3 e).2 (bytesO e.q)
theorem evW_len (e : EvP) : (evW0 e).1.length ≤ 1048576 ∧ (evW1 e).1.length ≤ 1048576 ∧ (evW2 e).1.length ≤ 1048576 ∧ (evW3 e).1.length ≤ 1048576 ∧ (evW4 e).1.length ≤ 1048576 := by
 have h0 : (evW0 e).1.length ≤ 1048576 := wNum_len (by simp)
 have h1 : (evW1 e).1.length ≤ 1048576 := wNum_len h0
 have h2 : (evW2 e).1.length ≤ 1048576 := wRaw_len h1
 have h3 : (evW3 e).1.length ≤ 1048576 := wRaw_len h2
 have h4 : (evW4 e).1.length ≤ 1048576 := wRaw_len h3
 exact ⟨h0, h1, h2, h3, h4⟩
def bytesEv (e : EvP) : List UInt8 × Int := if chkEv e = 0 then (outs (evW4 e).1 (evW4 e).2, (evW4 e).2) else ([], 2)
theorem effO_len (k m : Int) (ys : List UInt8) : (effO k m ys).length ≤ 2000 := by
 unfold effO
 split
 ·
  rename_i h
  have := fine_len h
  unfold effB
  rw [List.length_append, List.length_append, List.length_append, enc_len, enc_len, enc_len]
  have n1 := nb_le k.toNat (by omega)
  have n2 := nb_le m.toNat (by omega)
  have n3 := nb_le ys.length (by omega)
  omega
 ·
  simp
theorem bytesO_len (xs : List (Int × Int × Int)) : (bytesO xs).length ≤ 40000 := by
 unfold bytesO
 split
 ·
  rename_i h
  have := (chkS_zero h).1
  show (UInt8.ofNat (xs.length / 256) :: UInt8.ofNat xs.length :: xs.flatMap spanB).length ≤ 40000
  rw [List.length_cons, List.length_cons, flat_len]
  omega
 ·
  simp

set_option maxRecDepth 100000 in
set_option maxHeartbeats 8000000 in
theorem evbytes_any (w : World) (x : EvT) (e : EvP) (h : EvR w x e) (hs : EvSm e) :
  Calls Tryz.prog 69 #[.agg #[.int .i64 x.n, .int .i64 x.s, .string x.p, .int .i64 x.k, .int .i64 x.m, .slice x.A x.l x.c, .slice x.B x.bl x.bc]] w fun r w' => ∃ A' c', r = .returned (.tuple #[.slice A' (bytesEv e).1.length c', .int .i64 (bytesEv e).2]) ∧ Fresh w w' A' c' (bytesEv e).1 := by
 obtain ⟨w1, hw1, c1, b1⟩ := news1 w (.cells #[.int .i64 x.n, .int .i64 x.s, .string x.p, .int .i64 x.k, .int .i64 x.m, .slice x.A x.l x.c, .slice x.B x.bl x.bc] 30)
 have W1 := Lib.hid hw1
 have HR := Lib.hid (h.chg c1)
 have C0 := Lib.hid c1
 have HS := Lib.hid hs
 have z0 := cell_of b1 0
 have z1 := cell_of b1 1
 have z2 := cell_of b1 2
 have z3 := cell_of b1 3
 have z4 := cell_of b1 4
 have z5 := cell_of b1 5
 have z6 := cell_of b1 6
 simp only [List.getElem?_toArray, List.getElem?_cons_succ, List.getElem?_cons_zero] at z0 z1 z2 z3 z4 z5 z6
 have hck := evcheck_any w1 x e (h.chg c1) hs
 rcases chkEv_two e with hk | hk
 rotate_left
 ·
  have EB : Hid (bytesEv e = ([], 2)) := Lib.hid (by unfold bytesEv; rw [hk]; rfl)
  rw [hk] at hck
  have HC := Lib.hid hck
  clear hck hk hw1 c1 b1 h hs
  rw [EB.out]
  go_enter Tryz.func69, Tryz.ntmps69
  go_upto_region 1 with fail
  rw [← W1.out]
  generalize w.heap.size = g0 at *
  go_wp2_with fail
  refine HC.out.mono ?_
  rintro r w2 ⟨rfl, hc⟩
  have C := Lib.hid (C0.out.trans hc)
  clear hc z0 z1 z2 z3 z4 z5 z6
  go_wp2
  go_ret2
  exact ⟨none, 0, rfl, OwnB.none_ _, by simp, C.out⟩
 have EB : Hid (bytesEv e = (outs (evW4 e).1 (evW4 e).2, (evW4 e).2)) := Lib.hid (by unfold bytesEv; rw [if_pos hk])
 rw [hk] at hck
 have HC := Lib.hid hck
 rw [EB.out]
 obtain ⟨g0, hg0⟩ : ∃ g, w.heap.size = g := ⟨_, rfl⟩
 rw [hg0] at z0 z1 z2 z3 z4 z5 z6
 have G0 := Lib.hid hg0
 have DX : Hid (∀ w', Chg [] w1 w' → w'.cell? ⟨g0, 0, none⟩ = some (.int .i64 x.n) ∧ w'.cell? ⟨g0, 1, none⟩ = some (.int .i64 x.s) ∧ w'.cell? ⟨g0, 2, none⟩ = some (.string x.p) ∧ w'.cell? ⟨g0, 3, none⟩ = some (.int .i64 x.k) ∧ w'.cell? ⟨g0, 4, none⟩ = some (.int .i64 x.m) ∧ w'.cell? ⟨g0, 5, none⟩ = some (.slice x.A x.l x.c) ∧ w'.cell? ⟨g0, 6, none⟩ = some (.slice x.B x.bl x.bc)) := Lib.hid (fun w' hc => ⟨hc.cell z0 (by simp), hc.cell z1 (by simp), hc.cell z2 (by simp), hc.cell z3 (by simp), hc.cell z4 (by simp), hc.cell z5 (by simp), hc.cell z6 (by simp)⟩)
 have xn := Lib.hid h.n
 have xs := Lib.hid h.s
 have xp := Lib.hid h.p
 have xk := Lib.hid h.k
 have xm := Lib.hid h.m
 have EL := Lib.hid (evW_len e)
 clear hck hk hw1 c1 b1 h hs hg0
 go_enter Tryz.func69, Tryz.ntmps69
 go_upto_region 1 with fail
 rw [← W1.out, G0.out]
 go_wp2_with fail
 refine HC.out.mono ?_
 rintro r w2 ⟨rfl, hc⟩
 have C := Lib.hid hc
 clear hc z0 z1 z2 z3 z4 z5 z6
 obtain ⟨z0, z1, z2, z3, z4, z5, z6⟩ := DX.out _ C.out
 go_wp2_with fail
 refine (ebytes_any w2 x.k x.m x.A x.l x.c e.b (HR.out.A.chg C.out (by simp)) (by rw [HR.out.l]; exact HS.out.2.1)).mono ?_
 rintro r w3 ⟨A3, c3, rfl, h3⟩
 clear z0 z1 z2 z3 z4 z5 z6
 rw [xk.out, xm.out] at h3
 rw [xk.out, xm.out]
 have O3 := Lib.hid h3.1
 replace C := Lib.hid (C.out.trans h3.2.2)
 clear h3
 obtain ⟨z0, z1, z2, z3, z4, z5, z6⟩ := DX.out _ C.out
 go_wp2_with fail
 refine (pabytes_any w3 x.B x.bl x.bc e.q (HR.out.B.chg C.out (by simp)) (by rw [HR.out.bl]; exact HS.out.2.2)).mono ?_
 rintro r w4 ⟨A4, c4, rfl, h4⟩
 clear z0 z1 z2 z3 z4 z5 z6
 have O4 := Lib.hid h4.1
 replace O3 := Lib.hid (O3.out.chg h4.2.2 (by simp))
 replace C := Lib.hid (C.out.trans h4.2.2)
 clear h4
 have DX4 : Hid (∀ w', Chg [] w4 w' → w'.cell? ⟨g0, 0, none⟩ = some (.int .i64 x.n) ∧ w'.cell? ⟨g0, 1, none⟩ = some (.int .i64 x.s) ∧ w'.cell? ⟨g0, 2, none⟩ = some (.string x.p) ∧ w'.cell? ⟨g0, 3, none⟩ = some (.int .i64 x.k) ∧ w'.cell? ⟨g0, 4, none⟩ = some (.int .i64 x.m) ∧ w'.cell? ⟨g0, 5, none⟩ = some (.slice x.A x.l x.c) ∧ w'.cell? ⟨g0, 6, none⟩ = some (.slice x.B x.bl x.bc)) := Lib.hid (fun w' hc => DX.out _ (C.out.trans hc))
 have P4 := xp
 go_wp2_with fail
 refine (ws_new w4 w4 (Chg.refl [] w4)).mono ?_
 rintro r w5 ⟨b, rfl, h5⟩
 have K := Lib.hid h5
 clear h5
 obtain ⟨z0, z1, z2, z3, z4, z5, z6⟩ := DX4.out _ K.out.chg
 go_wp2_with fail
 refine (ws_num w4 w5 b [] 0 x.n K.out (by simp)).mono ?_
 rintro r w6 ⟨rfl, h⟩
 rw [xn.out] at h
 clear z0 z1 z2 z3 z4 z5 z6
 replace K : Hid (Ws w4 w6 b (evW0 e).1 (evW0 e).2) := Lib.hid h
 clear h
 obtain ⟨z0, z1, z2, z3, z4, z5, z6⟩ := DX4.out _ K.out.chg
 go_wp2_with fail
 refine (ws_num w4 w6 b _ _ x.s K.out EL.out.1).mono ?_
 rintro r w7 ⟨rfl, h⟩
 rw [xs.out] at h
 clear z0 z1 z2 z3 z4 z5 z6
 replace K : Hid (Ws w4 w7 b (evW1 e).1 (evW1 e).2) := Lib.hid h
 clear h
 obtain ⟨z0, z1, z2, z3, z4, z5, z6⟩ := DX4.out _ K.out.chg
 go_wp2_with fail
 refine (ws_text w4 w7 b _ _ x.p K.out (EL.out.2.1) (by rw [xp.out, strOf_size]; have := HS.out.1; omega)).mono ?_
 rintro r w8 ⟨rfl, h⟩
 rw [xp.out, strOf_data] at h
 clear z0 z1 z2 z3 z4 z5 z6
 replace K : Hid (Ws w4 w8 b (evW2 e).1 (evW2 e).2) := Lib.hid h
 clear h
 obtain ⟨z0, z1, z2, z3, z4, z5, z6⟩ := DX4.out _ K.out.chg
 go_wp2_with fail
 refine (ws_raw w4 w8 b _ _ A3 _ c3 (effO e.k e.m e.b) K.out (EL.out.2.2.1) (by have := effO_len e.k e.m e.b; omega) O3.out.reads).mono ?_
 rintro r w9 ⟨rfl, h⟩
 clear z0 z1 z2 z3 z4 z5 z6
 replace K : Hid (Ws w4 w9 b (evW3 e).1 (evW3 e).2) := Lib.hid h
 clear h
 obtain ⟨z0, z1, z2, z3, z4, z5, z6⟩ := DX4.out _ K.out.chg
 go_wp2_with fail
 refine (ws_raw w4 w9 b _ _ A4 _ c4 (bytesO e.q) K.out (EL.out.2.2.2.1) (by have := bytesO_len e.q; omega) O4.out.reads).mono ?_
 rintro r w10 ⟨rfl, h⟩
 clear z0 z1 z2 z3 z4 z5 z6
 replace K : Hid (Ws w4 w10 b (evW4 e).1 (evW4 e).2) := Lib.hid h
 clear h
 obtain ⟨z0, z1, z2, z3, z4, z5, z6⟩ := DX4.out _ K.out.chg
 go_wp2_with fail
 refine (ws_out w4 w10 b _ _ K.out (EL.out.2.2.2.2)).mono ?_
 rintro r w11 ⟨A9, c9, rfl, h9⟩
 have F := Lib.hid (h9.since (C0.out.trans C.out))
 clear h9 z0 z1 z2 z3 z4 z5 z6
 go_wp2
 go_ret2
 exact ⟨A9, c9, rfl, F.out⟩
end
section
open Go.RowKit

theorem fnv0_lt : fnv0 < 18446744073709551616 := by unfold fnv0; omega
set_option maxHeartbeats 400000 in
theorem more_any (w : World) (s : Nat) (hs : s < 18446744073709551616) (A : Option Addr) (n c : Nat) (xs : List UInt8) (h : Bs w A n xs) (hn : n ≤ 140737488351232) :
  Calls Tryz.prog 138 #[.int .u64 (s : Int), .slice A n c] w fun e w' => e = .returned (.int .u64 (fnv s xs : Int)) ∧ w = w' := by
 have HC := Lib.hid (through_any w s hs A n c xs h hn)
 clear h
 go_enter Tryz.func138, Tryz.ntmps138
 go_wp2_with (go_at_call 141; refine HC.out.mono ?_; rintro e w1 ⟨rfl, rfl⟩)
 go_ret
 exact ⟨rfl, rfl⟩
set_option maxHeartbeats 400000 in
theorem sum_any (w : World) (A : Option Addr) (n c : Nat) (xs : List UInt8) (h : Bs w A n xs) (hn : n ≤ 140737488351232) :
  Calls Tryz.prog 70 #[.slice A n c] w fun e w' => e = .returned (.int .u64 (fnvS xs : Int)) ∧ w = w' := by
 have hc := more_any w fnv0 fnv0_lt A n c xs h hn
 change Calls _ _ _ _ (fun e w' => e = .returned (.int .u64 (fnvS xs : Int)) ∧ w = w') at hc
 have HC := Lib.hid hc
 clear h hc
 generalize fnvS xs = S at *
 go_enter Tryz.func70, Tryz.ntmps70
 go_wp2_with (go_at_call 138; refine HC.out.mono ?_; rintro e w1 ⟨rfl, rfl⟩)
 go_ret
 exact ⟨rfl, rfl⟩
end
section
open Go.RowKit Go.Lib


def u64Ty : RowTy Nat where
 enc := fun x => [.int .u64 (x : Int)]
 k := 1
 T := 52
 TS := 89
 z := 0
 zv := .int .u64 0
 bytes := 8
 klen := fun _ => rfl
 one := by intro x v hv; simp at hv; rcases hv with rfl; rfl
 zc := rfl
 kpos := by decide
 bpos := by decide
 under := by kernel_rfl
 info := by kernel_rfl
theorem u64s_row {w : World} {A : Option Addr} {us : List Nat} (h : RdK u64Ty w A us.length us) (hr : ∀ u ∈ us, u < 18446744073709551616) : U64s w A us.length us := by
 refine ⟨rfl, fun j u hj => ?_, hr⟩
 have hlt : j < us.length := (List.getElem?_eq_some_iff.1 hj).1
 obtain ⟨g, o, e, _⟩ := h.line (by omega)
 subst e
 refine ⟨_, rfl, ?_⟩
 have := h.at_ j 0 u _ hj rfl
 rwa [show u64Ty.k = 1 from rfl, Nat.mul_one, Nat.add_zero, ← add_lit] at this
theorem bytesEv_le (e : EvP) : (bytesEv e).1.length ≤ 1048576 := by
 unfold bytesEv
 split
 ·
  show (outs _ _).length ≤ _
  unfold outs
  split
  ·
   exact (evW_len e).2.2.2.2
  ·
   simp
 ·
  simp
def sumsE (es : List EvP) : List Nat := es.map (fun e => fnvS (bytesEv e).1)
def printE (es : List EvP) : Nat × Int := if StOk es then (fnvS (mixB (sumsE es)), 0) else (0, 2)
theorem sumsE_lt (es : List EvP) : ∀ u ∈ sumsE es, u < 18446744073709551616 := by
 intro u hu
 obtain ⟨e, _, rfl⟩ := List.mem_map.1 hu
 exact fnv_lt _ _ fnv0_lt
set_option maxRecDepth 100000 in
set_option maxHeartbeats 8000000 in
theorem stprint_any (w : World) (A : Option Addr) (c : Nat) (xs : List EvT) (es : List EvP) (h : RdK evTy w A xs.length xs) (hc : xs.length ≤ c) (ho : xs = [] ∨ ∀ a, A = some a → a.block < w.heap.size) (hx : EvsR w xs es) (hn : xs.length ≤ 100000) (hs : ∀ e ∈ es, EvSm e) :
  Calls Tryz.prog 32 #[.slice A xs.length c] w fun r w' => r = .returned (.tuple #[.int .u64 ((printE es).1 : Int), .int .i64 (printE es).2]) ∧ Chg [] w w' := by
 obtain ⟨R, hR⟩ : ∃ R, printE es = R := ⟨_, rfl⟩
 rw [hR]
 have HR := Lib.hid hR
 have CK := Lib.hid (stcheck_any w A c xs es h hc ho hx hn hs)
 have HA := Lib.hid h
 have HX := Lib.hid hx
 have HN := Lib.hid hn
 have HS := Lib.hid hs
 clear h hc ho hx hn hs hR
 have MK := fun W => u64Ty.run_mk0 xs.length (by have := HN.out; omega) W
 go_enter Tryz.func32, Tryz.ntmps32
 go_wp2_with fail
 refine CK.out.mono ?_
 rintro r w1 ⟨rfl, hc⟩
 have C1 := Lib.hid hc
 clear hc CK
 rcases stE_two es with e1 | e1
 rotate_left
 ·
  have ER : R = (0, 2) := by
   rw [← HR.out]
   unfold printE
   rw [if_neg (fun q => by rw [stE_zero.2 q] at e1; cases e1)]
  subst ER
  rw [e1]
  clear e1 HR MK
  go_wp2
  go_ret2
  exact ⟨rfl, C1.out⟩
 have ER : Hid (R = (fnvS (mixB (sumsE es)), 0)) := Lib.hid (by rw [← HR.out]; unfold printE; rw [if_pos (stE_zero.1 e1)])
 rw [e1]
 clear e1 HR
 obtain ⟨w2, hw2, c2, b2⟩ := news1 w1 (.cells (u64Ty.flat (List.replicate xs.length u64Ty.z)).toArray 52)
 have W2 := Lib.hid hw2
 have O2 : Hid (OwnK u64Ty w2 (some ⟨w1.heap.size, 0, none⟩) xs.length []) := Lib.hid (OwnK.of (full := List.replicate xs.length u64Ty.z) b2 (Nat.zero_le _) (by have := HN.out; unfold maxLen; omega) (by simp) (by simp))
 have C2 := Lib.hid (C1.out.trans c2)
 have MK1 : (Instr.makeSlice 89 (.int .i64 0) (.int .i64 (xs.length : Int))).run Tryz.prog w1 = .ok (.slice (some ⟨w1.heap.size, 0, none⟩) 0 xs.length) (w1.alloc (.cells (u64Ty.flat (List.replicate xs.length u64Ty.z)).toArray 52)) := MK w1
 rw [← hw2] at MK1
 clear hw2 c2 b2 MK
 go_wp2_with fail
 go_loopw [5, 20] (fun v5 v20 wr => ∃ (k n : Nat) (A1 : Option Addr) (d1 : Nat), k ≤ xs.length ∧ v20 = .int .i64 (k : Int) ∧ v5 = .slice A1 n d1 ∧ Hid ((sumsE (es.take k)).length = n) ∧ Hid (OwnK u64Ty wr A1 d1 (sumsE (es.take k))) ∧ Hid (∀ a, A1 = some a → w.heap.size ≤ a.block) ∧ Hid (Chg [] w wr)) (fun _ v20 _ => xs.length - (RowKit.intOf v20).toNat)
 case atStart => exact ⟨0, 0, _, _, Nat.zero_le _, rfl, rfl, Lib.hid rfl, O2, Lib.hid (fun a ha => by cases ha; exact C1.out.size), C2⟩
 case round =>
  obtain ⟨k, n, A1, d1, hk, rfl, rfl, HL, OD, NA, PC⟩ := hrel
  have j0 : (0 : Int) ≤ (k : Int) := by omega
  clear MK1
  by_cases hlt : k < xs.length
  ·
   have j1 : (k : Int) < (xs.length : Int) := by omega
   have j3 : IntKind.i64.wrap ((k : Int) + 1) = (k : Int) + 1 := IntWalk.i64_in _ (by have := HN.out; omega)
   obtain ⟨g3, o3, eA, _⟩ := HA.out.line (by omega)
   subst eA
   obtain ⟨x, e, ex, ee, rx⟩ := HX.out.at_ hlt
   obtain ⟨z0, z1, z2, z3, z4, z5, z6⟩ := evCells (HA.out.chg PC.out (by simp)) ex
   have SN : Hid (sumsE (es.take (k + 1)) = sumsE (es.take k) ++ [fnvS (bytesEv e).1]) := Lib.hid (by unfold sumsE; rw [List.take_add_one, ee]; simp)
   have SE : Hid (EvSm e) := Lib.hid (HS.out e (List.mem_of_getElem? ee))
   obtain ⟨w5, hw5, c5, b5⟩ := news1 wr (.cells #[.int .i64 x.n, .int .i64 x.s, .string x.p, .int .i64 x.k, .int .i64 x.m, .slice x.A x.l x.c, .slice x.B x.bl x.bc] 30)
   have W5 := Lib.hid hw5
   have y0 := cell_of b5 0
   have y1 := cell_of b5 1
   have y2 := cell_of b5 2
   have y3 := cell_of b5 3
   have y4 := cell_of b5 4
   have y5 := cell_of b5 5
   have y6 := cell_of b5 6
   simp only [List.getElem?_toArray, List.getElem?_cons_succ, List.getElem?_cons_zero] at y0 y1 y2 y3 y4 y5 y6
   have BY := Lib.hid (evbytes_any w5 x e (rx.chg (PC.out.trans c5)) SE.out)
   have OD5 := Lib.hid (OD.out.chg c5 (by simp))
   have C5 := Lib.hid (PC.out.trans c5)
   clear ex ee rx hw5 c5 b5 OD
   go_upto_region 8 with fail
   rw [← W5.out]
   generalize wr.heap.size = g5 at *
   clear W5 z0 z1 z2 z3 z4 z5 z6
   go_wp2_with fail
   refine BY.out.mono ?_
   rintro r w6 ⟨A6, c6, rfl, hf⟩
   clear y0 y1 y2 y3 y4 y5 y6 BY
   obtain ⟨bn, hbn⟩ : ∃ n, (bytesEv e).1.length = n := ⟨_, rfl⟩
   obtain ⟨u, hu⟩ : ∃ u, fnvS (bytesEv e).1 = u := ⟨_, rfl⟩
   have SU := sum_any w6 A6 _ c6 (bytesEv e).1 hf.1.reads (by have := bytesEv_le e; omega)
   rw [hbn, hu] at SU
   rw [hu] at SN
   rw [hbn]
   have SU2 := Lib.hid SU
   have OD6 := Lib.hid (OD5.out.chg hf.2.2 (by simp))
   have C6 := Lib.hid (C5.out.trans hf.2.2)
   obtain ⟨w7, hw7, c7, b7⟩ := news1 w6 (.cells #[.int .u64 (u : Int)] 52)
   have W7 := Lib.hid hw7
   have RX : Hid (RdK u64Ty w7 (some ⟨w6.heap.size, 0, none⟩) 1 [u]) := Lib.hid ⟨rfl, fun j v hj => ⟨_, rfl, by rw [add_zero_lit, cell_of b7 j]; simpa [RowTy.flat, u64Ty] using hj⟩⟩
   have OD7 := Lib.hid (OD6.out.chg c7 (by simp))
   have C7 := Lib.hid (C6.out.trans c7)
   have LN : Hid ((n + 1) * 400 ≤ 140737488355327) := Lib.hid (by have := HL.out; unfold sumsE at this; rw [List.length_map, List.length_take] at this; have := HN.out; omega)
   clear hf SU hw7 c7 b7 OD5 OD6 C5 C6 hbn hu
   go_wp2_with fail
   refine SU2.out.mono ?_
   rintro r w66 ⟨rfl, hww⟩
   subst hww
   clear SU2
   go_wp2_with (at_builtin; rw [← W7.out]; refine wpList_appK (R := u64Ty) rfl (.tmp 29) (.tmp 32) rfl rfl OD7.out HL.out rfl RX.out LN.out ?_; intro A3 c3 w3 o3 g3 e3)
   have HL1 : Hid ((sumsE (es.take (k + 1))).length = n + 1) := Lib.hid (by rw [SN.out, List.length_append, HL.out]; rfl)
   have O3 : Hid (OwnK u64Ty w3 A3 c3 (sumsE (es.take (k + 1)))) := Lib.hid (by rw [SN.out]; exact o3)
   have C3 := Lib.hid (C7.out.grown g3 (fun i hi => by
    rcases A1 with _ | a
    ·
     simp at hi
    ·
     simp at hi; subst hi; exact .inr (NA.out _ rfl)))
   have NA3 : Hid (∀ a, A3 = some a → w.heap.size ≤ a.block) := Lib.hid (fun a ha => by
    rcases e3 with e | e
    ·
     exact NA.out a (by rw [← e]; exact ha)
    ·
     rw [e] at ha; cases ha; exact C7.out.size)
   clear o3 g3 e3 W7 RX OD7
   go_wp2
   go_round
   case rel => exact ⟨k + 1, n + 1, A3, c3, by omega, by go_num, by first | rfl | go_num, HL1, O3, NA3, C3⟩
   case measure => simp [RowKit.intOf]; omega
  ·
   obtain rfl : k = xs.length := by omega
   have j1 : ¬ (xs.length : Int) < (xs.length : Int) := by omega
   have e1 : es.take xs.length = es := by rw [HX.out.1, List.take_length]
   rw [e1] at HL OD
   clear e1
   have LD : Hid ((sumsE es).length ≤ 100000) := Lib.hid (by unfold sumsE; rw [List.length_map, ← HX.out.1]; exact HN.out)
   have OF := Lib.hid (mix_any wr A1 _ d1 (sumsE es) (u64s_row OD.out.reads (sumsE_lt es)) (by have := LD.out; omega))
   rw [HL.out] at OF
   go_wp2_with fail
   refine OF.out.mono ?_
   rintro r w5 ⟨rfl, hb⟩
   have ER2 := ER.out
   subst ER2
   have P5 := Lib.hid (PC.out.trans (below_chg8 hb))
   clear hb OF
   go_wp2
   go_ret2
   exact ⟨rfl, P5.out⟩
end
end Go.Proofs.YtomgjogkkoigbaaGreatDoor
