/- A range over a function whose iterator writes cells of its own (blocks Si), with a body that writes cells of its caller's (blocks T) and may leave: no program here. strings.SplitSeq at the byte 47: what its iterator hands over. path.isPart: which texts are parts. path.Check: which texts are paths. Package effect: kinds, Check. event.Check. event.Ahead. Which past events make, and whether they are closed: purely. The kit's SameEvent. -/
import Derived.Test.YtgbidlhgmeglmaaGreatDoorZepe
import Derived.Test.YtgbidlhgmeglmaaGreatDoorShelf
import Derived.Shelf.Strings.Search3
import Derived.Deep.QuietTactic
import Derived.BigQuiet
import Derived.Shelf.GgClosure.StringsRunes
import Derived.Scope
import Derived.Test.YtgbidlhgmeglmaaGreatDoorZepb
import Derived.Test.YtgbidlhgmeglmaaGreatDoorZepc
import Derived.Deep.Cut
import Derived.Deep.RegionHeld3
namespace Go.Proofs.YtgbidlhgmeglmaaGreatDoor
section
open Go.RowKit

structure Kpt (n : Nat) (T : List Nat) (w w' : World) : Prop where
 os : w'.os = w.os
 tape : w'.tape = w.tape
 output : w'.output = w.output
 size : w.heap.size ≤ w'.heap.size
 block : ∀ k, k < n → k ∉ T → w'.heap[k]? = w.heap[k]?
theorem Kpt.refl (n : Nat) (T : List Nat) (w : World) : Kpt n T w w := ⟨rfl, rfl, rfl, Nat.le_refl _, fun _ _ _ => rfl⟩
theorem Kpt.trans {n : Nat} {T : List Nat} {a b c : World} (h : Kpt n T a b) (k : Kpt n T b c) : Kpt n T a c :=
 ⟨k.os.trans h.os, k.tape.trans h.tape, k.output.trans h.output, Nat.le_trans h.size k.size, fun i hi hn => (k.block i hi hn).trans (h.block i hi hn)⟩
theorem Kpt.of_chg {n : Nat} {T : List Nat} {a b : World} (h : Chg T a b) (hn : n ≤ a.heap.size) : Kpt n T a b :=
 ⟨h.os, h.tape, h.output, h.size, fun k hk hT => h.block k (by omega) hT⟩
theorem Kpt.of_below {n m : Nat} {T : List Nat} {a b : World} (h : Below m a b) (hn : n ≤ m) : Kpt n T a b :=
 ⟨h.os, h.tape, h.output, h.size, fun k hk _ => h.block k (by omega)⟩
theorem Kpt.mono {n m : Nat} {S T : List Nat} {a b : World} (h : Kpt m S a b) (hn : n ≤ m) (hS : ∀ x ∈ S, x ∈ T) : Kpt n T a b :=
 ⟨h.os, h.tape, h.output, h.size, fun k hk hT => h.block k (by omega) (fun hs => hT (hS k hs))⟩
theorem Kpt.chg {T : List Nat} {a b : World} (h : Kpt a.heap.size T a b) : Chg T a b := ⟨h.os, h.tape, h.output, h.size, fun k hk hT => h.block k hk hT⟩

def brkPost {α : Type} (I : List α → World → Prop) (Ix : Code → List α → World → Prop) (n₁ : Nat) (T : List Nat) (xs : List α) (W : World) : Exit → Act → World → Prop
 | .normal, _, W' => KeepsOthers W W' ∧ Kpt n₁ T W W' ∧ I xs W'
 | .ret, _, W' => KeepsOthers W W' ∧ Ix .ret xs W'
 | .exit id, _, W' => KeepsOthers W W' ∧ Ix (.exit id) xs W'
 | _, _, _ => False

theorem range_brk {α : Type} {P : Program} {n : Nat} {g : Operand} {ps : Array Tmp} {assign body : Code} {Q : Exit → Act → World → Prop} {a : Act} {w : World} {gf : Nat} {lb : Array Value}
  (hg : a.eval g = .func (.func gf) #[] lb) (eg : ∀ args w, (callFunc gf args).run P w = .ok (.enter gf args) w) {encs : α → Array Value} {S Sp : List α → Prop} {Ex : List α → α → World → Prop} {n₁ : Nat} (hn₁ : n₁ ≤ w.heap.size) {Si T : List Nat} (hSi : ∀ x ∈ Si, x < w.heap.size)
  (hseq : ∀ (l : Nat) (J Jx : List α → World → Prop) (W : World), Below w.heap.size w W → (∀ pre A B, J pre A → Kpt W.heap.size Si A B → J pre B) → (∀ pre A B, Jx pre A → Kpt W.heap.size Si A B → Jx pre B) →
   (∀ pre x W1, J pre W1 → Ex pre x W1 → YieldAt Fence.wide (n - 1 - 1) P l (encs x) W1 fun e W' => (e = .returned (.bool true) ∧ J (pre ++ [x]) W' ∧ Kpt n₁ T W1 W') ∨ (e = .returned (.bool false) ∧ Jx (pre ++ [x]) W')) →
   J [] W → CallsIn Fence.wide (n - 1) P gf (#[.func (.yield l) #[] #[]] ++ lb) W fun e W' => (∃ v, e = .returned v) ∧ ((∃ xs, S xs ∧ J xs W') ∨ ∃ xs, Sp xs ∧ Jx xs W'))
  (hps : ∀ x, (encs x).size = ps.size) (I : List α → World → Prop) (Ix : Code → List α → World → Prop) (hI : ∀ pre A B, I pre A → Kpt w.heap.size Si A B → I pre B) (hIx : ∀ c pre A B, Ix c pre A → Kpt w.heap.size Si A B → Ix c pre B) (h0 : I [] w)
  (hEx : ∀ pre x W l o o', W.heap[l]? = some o → o.isCells = false → Ex pre x W → Ex pre x (W.putObj l o')) (a₁ : α → Act)
  (hassign : ∀ (l : Nat) (x : α) (W : World) (K : Act → World → Prop), K (a₁ x) W →
   assign.wpIn (Fence.wide.inRound l) (n - 1 - 1) P (Exit.then K (fun _ _ _ => False)) { tmps := (ps.zip (encs x)).foldl (fun t (p, v) => t.setIfInBounds p v) a.tmps, defers := [] } W)
  (hbody : ∀ (l : Nat) (pre : List α) (x : α) (W : World), I pre W → Ex pre x W → body.wpIn (Fence.wide.inRound l) (n - 1 - 1) P (brkPost I Ix n₁ T (pre ++ [x]) W) (a₁ x) W)
  (hdone : ∀ (D : Nat) (xs : List α) (W : World), w.heap.size ≤ D → S xs → I xs W → W.heap[D]? = some (.deferred (some [])) → Q .normal { a with defers := { target := .collected D, args := #[] } :: a.defers } W)
  (hstop : ∀ (D : Nat) (c : Code) (xs : List α) (W : World), w.heap.size ≤ D → Sp xs → Ix c xs W → W.heap[D]? = some (.deferred (some [])) → c.wpIn Fence.wide n P Q { a with defers := { target := .collected D, args := #[] } :: a.defers } W) :
  (Code.rangeFunc g ps assign body).wpIn Fence.wide n P Q a w := by
 refine wpIn_rangeFunc ?_
 intro fn hfn
 obtain ⟨rc, hrc⟩ : ∃ rc : LoopState → Option Code → Loop, rc = fun st pe => { state := st, pending := pe, fn, tmps := a.tmps, params := ps, assign, body, defers := w.heap.size } := ⟨_, rfl⟩
 obtain ⟨V, hV, hcV, hD0, hL0⟩ := news2 w (.deferred (some [])) (.loop (rc .ready none))
 have hsV : V.heap.size = w.heap.size + 2 := by rw [hV]; simp
 have bV : Below w.heap.size w V := by rw [hV]; exact ((Below.refl _ w).alloc (Nat.le_refl _) _).alloc (by simp) _
 refine ⟨w.heap.size + 1, [{ target := .collected w.heap.size, args := #[] }], V, { target := .fn (.func gf) lb, args := #[.func (.yield (w.heap.size + 1)) #[] #[]] }, V, gf,
  #[.func (.yield (w.heap.size + 1)) #[] #[]] ++ lb, V, ?_, ?_, fun _ _ => trivial, ?_, fun h => by simp [Fence.wide] at h, ?_⟩
 ·
  rw [hV, hrc]; exact run_enterLoop_outer _ _ _ _ _
 ·
  simp only [resolve, hg]
  simp [go_sem]
 ·
  simp [invoke, go_sem, eg]
 ·
  -- the record and the row of deferred calls, turned or not, lie at or behind w's end
  have turn : ∀ (W : World) (o : Obj) (o' : Obj), W.heap[w.heap.size + 1]? = some o → o.isCells = false → o.isWalk = false → ∀ m, m ≤ w.heap.size → Below m W (W.putObj (w.heap.size + 1) o') :=
   fun W o o' h hc hw m hm => belowK_b (w := w) hm W _ o o' (by omega) h hc hw
  have far : ∀ k, w.heap.size ≤ k → k ∉ Si := fun k hk h => by have := hSi k h; omega
  refine (hseq (w.heap.size + 1) (fun pre W => I pre W ∧ W.heap[w.heap.size + 1]? = some (.loop (rc .ready none)) ∧ W.heap[w.heap.size]? = some (.deferred (some [])))
   (fun pre W => ∃ c, Ix c pre W ∧ W.heap[w.heap.size + 1]? = some (.loop (rc .done (some c))) ∧ W.heap[w.heap.size]? = some (.deferred (some []))) V bV ?_ ?_ ?_
   ⟨hI _ _ _ h0 (Kpt.of_below bV (Nat.le_refl _)), hL0, hD0⟩).mono ?_
  ·
   rintro pre A B ⟨hi, hl, hk⟩ hb
   exact ⟨hI _ _ _ hi (hb.mono (by omega) (fun _ h => h)), (hb.block _ (by omega) (far _ (by omega))).trans hl, (hb.block _ (by omega) (far _ (Nat.le_refl _))).trans hk⟩
  ·
   rintro pre A B ⟨c, hi, hl, hk⟩ hb
   exact ⟨c, hIx _ _ _ _ hi (hb.mono (by omega) (fun _ h => h)), (hb.block _ (by omega) (far _ (by omega))).trans hl, (hb.block _ (by omega) (far _ (Nat.le_refl _))).trans hk⟩
  ·
   rintro pre x W ⟨hi, hl, hk⟩ hx
   have hlt := lt_of_heap hl
   have hy := run_yield (P := P) (args := encs x) hl (by rw [hrc]; exact hps x)
   rw [hrc] at hy
   refine ⟨fn, _, assign, body, hy, roundIn_of_wpIn hfn (hassign _ x W _ ⟨_, run_beginRound hl (by rw [hrc]), ?_⟩)⟩
   have hl2 : (W.putObj (w.heap.size + 1) (.loop { rc .ready none with state := .busy })).heap[w.heap.size + 1]? = some (.loop { rc .ready none with state := .busy }) := World.putObj_heap_same hlt
   have hk2 : (W.putObj (w.heap.size + 1) (.loop { rc .ready none with state := .busy })).heap[w.heap.size]? = some (.deferred (some [])) := (World.putObj_heap_other (by omega)).trans hk
   have b2 := turn W _ (.loop { rc .ready none with state := .busy }) hl rfl rfl
   refine wpIn_mono (hbody _ pre x _ (hI _ _ _ hi (Kpt.of_below (b2 _ (Nat.le_refl _)) (Nat.le_refl _))) (hEx pre x W _ _ _ hl rfl hx)) ?_
   have fin : ∀ (c : Code) (W3 : World), KeepsOthers (W.putObj (w.heap.size + 1) (.loop { rc .ready none with state := .busy })) W3 → Ix c (pre ++ [x]) W3 →
     ∃ v w', (Instr.endRound (w.heap.size + 1) (some c)).run P W3 = .ok v w' ∧ ((Ending.returned v = .returned (.bool true) ∧ (I (pre ++ [x]) w' ∧ w'.heap[w.heap.size + 1]? = some (.loop (rc .ready none)) ∧ w'.heap[w.heap.size]? = some (.deferred (some []))) ∧ Kpt n₁ T W w') ∨
      (Ending.returned v = .returned (.bool false) ∧ ∃ c, Ix c (pre ++ [x]) w' ∧ w'.heap[w.heap.size + 1]? = some (.loop (rc .done (some c))) ∧ w'.heap[w.heap.size]? = some (.deferred (some [])))) := by
    intro c W3 hk3 hi3
    have hl3 := hk3.same _ _ hl2 rfl
    have hd3 := hk3.same _ _ hk2 rfl
    have hr := run_endRound (P := P) (some c) hl3
    have b4 := turn W3 _ (.loop (rc .done (some c))) hl3 rfl rfl
    refine ⟨_, _, hr, .inr ⟨rfl, c, ?_, ?_, ?_⟩⟩
    ·
     have := hIx _ _ _ _ hi3 (Kpt.of_below (b4 _ (Nat.le_refl _)) (Nat.le_refl _))
     rw [hrc] at this ⊢
     exact this
    ·
     rw [hrc]; exact World.putObj_heap_same (lt_of_heap hl3)
    ·
     exact (World.putObj_heap_other (by omega)).trans hd3
   rintro e a3 W3 hp
   cases e with
   | normal =>
    obtain ⟨hk3, hb3, hi3⟩ := hp
    have hl3 := hk3.same _ _ hl2 rfl
    have hd3 := hk3.same _ _ hk2 rfl
    have hr := run_endRound (P := P) none hl3
    have b4 := turn W3 _ (.loop (rc .ready none)) hl3 rfl rfl
    refine ⟨_, _, hr, .inl ⟨rfl, ⟨?_, ?_, ?_⟩, ?_⟩⟩
    ·
     have := hI _ _ _ hi3 (Kpt.of_below (b4 _ (Nat.le_refl _)) (Nat.le_refl _))
     rw [hrc] at this ⊢
     exact this
    ·
     rw [hrc]; exact World.putObj_heap_same (lt_of_heap hl3)
    ·
     exact (World.putObj_heap_other (by omega)).trans hd3
    ·
     have := ((Kpt.of_below (T := T) (b2 _ hn₁) (Nat.le_refl _)).trans hb3).trans (Kpt.of_below (b4 _ hn₁) (Nat.le_refl _))
     rw [hrc] at this ⊢
     exact this
   | ret => exact fin .ret W3 hp.1 hp.2
   | exit id => exact fin (.exit id) W3 hp.1 hp.2
   | goto t => exact hp.elim
   | panic ch => exact hp.elim
   | outgrown => exact hp.elim
  ·
   rintro e W2 ⟨⟨v, rfl⟩, (⟨xs, hS, hi, hl, hk⟩ | ⟨xs, hS, c, hi, hl, hk⟩)⟩
   ·
    refine ⟨none, _, by have := run_endLoop (P := P) hl (by rw [hrc]; simp); rw [hrc] at this; exact this, hdone _ xs _ (Nat.le_refl _) hS ?_ ((World.putObj_heap_other (by omega)).trans hk)⟩
    exact hI _ _ _ hi (Kpt.of_below (turn W2 _ _ hl rfl rfl _ (Nat.le_refl _)) (Nat.le_refl _))
   ·
    refine ⟨some c, _, by have := run_endLoop (P := P) hl (by rw [hrc]; simp); rw [hrc] at this; exact this, hstop _ c xs _ (Nat.le_refl _) hS ?_ ((World.putObj_heap_other (by omega)).trans hk)⟩
    exact hIx _ _ _ _ hi (Kpt.of_below (turn W2 _ _ hl rfl rfl _ (Nat.le_refl _)) (Nat.le_refl _))
end
section
open Go.RowKit
set_option linter.unusedSimpArgs false
set_option linter.unusedVariables false
attribute [local go_sem] Oper.semAt_some

theorem idx_no : ∀ (l : List UInt8), 47 ∉ l → Lib.indexByte l 47 = -1
 | [], _ => rfl
 | b :: l, h => by
  simp only [List.mem_cons, not_or] at h
  have hb : (b == 47) = false := by simpa using fun e => h.1 e.symm
  simp [Lib.indexByte, hb, idx_no l h.2]
theorem idx_at : ∀ (a b : List UInt8), 47 ∉ a → Lib.indexByte (a ++ 47 :: b) 47 = (a.length : Int)
 | [], b, _ => by simp [Lib.indexByte]
 | x :: a, b, h => by
  simp only [List.mem_cons, not_or] at h
  have hb : (x == 47) = false := by simpa using fun e => h.1 e.symm
  have := idx_at a b h.2
  simp only [List.cons_append, Lib.indexByte, hb, this]
  have h2 : ((a.length : Int) == -1) = false := by simp
  simp [h2]
theorem at47 (l : List UInt8) : 47 ∉ l ∨ ∃ a b, l = a ++ 47 :: b ∧ 47 ∉ a := by
 by_cases h : 47 ∈ l
 ·
  right
  induction l with
  | nil => simp at h
  | cons x l ih =>
   by_cases hx : x = 47
   ·
    subst hx; exact ⟨[], l, rfl, by simp⟩
   ·
    have : 47 ∈ l := by
     rcases List.mem_cons.1 h with h | h
     ·
      exact absurd h.symm hx
     ·
      exact h
    obtain ⟨a, b, e, ha⟩ := ih this
    refine ⟨x :: a, b, by rw [e]; rfl, ?_⟩
    simp only [List.mem_cons, not_or]
    exact ⟨fun e => hx e.symm, ha⟩
 ·
  exact .inl h
theorem index_no (w : World) (l : List UInt8) (h : 47 ∉ l) : Calls Tryz.prog 190 #[.string (strOf l), .string ⟨#[47]⟩] w fun e w' => e = .returned (.int .i64 (-1)) ∧ w' = w := by
 refine (Any.strings_Index_one Tryz.lays143 (strOf l) 47 w).mono ?_
 rintro e w' ⟨rfl, rfl⟩
 rw [strOf_data, idx_no l h]
 exact ⟨rfl, rfl⟩
theorem index_at (w : World) (a b : List UInt8) (h : 47 ∉ a) : Calls Tryz.prog 190 #[.string (strOf (a ++ 47 :: b)), .string ⟨#[47]⟩] w fun e w' => e = .returned (.int .i64 (a.length : Int)) ∧ w' = w := by
 refine (Any.strings_Index_one Tryz.lays143 (strOf (a ++ 47 :: b)) 47 w).mono ?_
 rintro e w' ⟨rfl, rfl⟩
 rw [strOf_data, idx_at a b h]
 exact ⟨rfl, rfl⟩
set_option maxRecDepth 100000 in
set_option maxHeartbeats 2000000 in
theorem split1_gives (n : Nat) (l n₁ bs bp bv : Nat) (T : List Nat) (xs : List UInt8) (hlen : xs.length ≤ 140737488351232)
  (J Jx : List (List UInt8) → World → Prop) (W : World) (hs1 : bs < n₁) (hp1 : bp < n₁) (hv1 : bv < n₁) (hsp : bs ≠ bp) (hsv : bs ≠ bv) (hTs : bs ∉ T) (hTp : bp ∉ T) (hTv : bv ∉ T) (hn₁ : n₁ ≤ W.heap.size)
  (hJ : ∀ pre A B, J pre A → Kpt W.heap.size [bs] A B → J pre B)
  (hY : ∀ pre x W1, J pre W1 → (pre ++ [x]) <+: cutL xs → YieldAt Fence.wide n Tryz.prog l #[.string (strOf x)] W1 fun e W' => (e = .returned (.bool true) ∧ J (pre ++ [x]) W' ∧ Kpt n₁ T W1 W') ∨ (e = .returned (.bool false) ∧ Jx (pre ++ [x]) W'))
  (hp : W.cell? ⟨bp, 0, none⟩ = some (.string ⟨#[47]⟩)) (hs : W.heap[bs]? = some (.cells #[.string (strOf xs)] 9 (0, 0))) (hv : W.cell? ⟨bv, 0, none⟩ = some (.int .i64 0)) (h0 : J [] W) :
  CallsIn Fence.wide (n + 1) Tryz.prog 188 #[.func (.yield l) #[] #[], .pointer (some ⟨bp, 0, none⟩), .pointer (some ⟨bs, 0, none⟩), .pointer (some ⟨bv, 0, none⟩)] W fun e W' => (∃ v, e = .returned v) ∧ ((∃ ys, ys = cutL xs ∧ J ys W') ∨ ∃ ys, True ∧ Jx ys W') := by
 have h1 : 1 ≤ n + 1 := by omega
 have hro : Fence.wide.round = none := rfl
 refine callsIn_of_wp Tryz.func188 rfl trivial ?_ hro
 simp only [Tryz.ntmps188, List.size_toArray, List.length_cons, List.length_nil, Nat.reduceAdd, Nat.reduceSub, Array.replicate_succ, Array.replicate_zero, List.push_toArray, List.append_toArray, List.nil_append, List.cons_append]
 gi_wp2
 gi_loopw [7, 8] (fun v7 v8 wr => ∃ (pre : List (List UInt8)) (rest : List UInt8), pre ++ cutA [] rest = cutL xs ∧ rest.length ≤ xs.length ∧ wr.heap[bs]? = some (.cells #[.string (strOf rest)] 9 (0, 0)) ∧ J pre wr ∧ Kpt n₁ (bs :: T) W wr)
  (fun _ _ wr => match wr.cell? ⟨bs, 0, none⟩ with | some (.string s) => s.size | _ => 0)
 case atStart => exact ⟨[], xs, rfl, Nat.le_refl _, hs, h0, Kpt.refl _ _ _⟩
 case round =>
  obtain ⟨pre, rest, hcut, hrl, hcell, hJs, hk⟩ := hrel
  have hbs := lt_of_heap hcell
  have cs := cell_of hcell 0
  simp only [List.getElem?_toArray, List.getElem?_cons_zero] at cs
  have cf := free_of hcell 0
  have cp := ((by rw [World.cell?, World.cell?, hk.block bp hp1 (by simp; exact ⟨fun e => hsp e.symm, hTp⟩)] : wr.cell? ⟨bp, 0, none⟩ = W.cell? ⟨bp, 0, none⟩)).trans hp
  have cv := ((by rw [World.cell?, World.cell?, hk.block bv hv1 (by simp; exact ⟨fun e => hsv e.symm, hTv⟩)] : wr.cell? ⟨bv, 0, none⟩ = W.cell? ⟨bv, 0, none⟩)).trans hv
  rcases at47 rest with hno | ⟨a, b, rfl, hno⟩
  ·
   -- the last piece
   rw [cutA_no _ _ hno, List.nil_append] at hcut
   obtain ⟨fn, tmps, assign, body, hy, hR⟩ := hY pre rest wr hJs (by rw [hcut]; exact List.prefix_refl _)
   gi_wp2_with (refine ⟨trivial, ?_⟩; gi_at_call 190; refine (callsIn_wide.2 (index_no _ rest hno)).mono ?_; rintro e w1 ⟨rfl, rfl⟩)
   refine hR.mono ?_
   rintro e W3 (⟨rfl, hJ3, hk3⟩ | ⟨rfl, hx⟩)
   ·
    gi_wp2
    go_end0
    exact ⟨⟨_, rfl⟩, .inl ⟨_, hcut, hJ3⟩⟩
   ·
    gi_wp2
    go_end0
    exact ⟨⟨_, rfl⟩, .inr ⟨_, trivial, hx⟩⟩
  ·
   -- a piece, and more behind it
   rw [cutA_at _ _ _ hno, List.nil_append] at hcut
   obtain ⟨fn, tmps, assign, body, hy, hR⟩ := hY pre a wr hJs ⟨cutA [] b, by rw [← hcut]; simp⟩
   have ez : (strOf (a ++ 47 :: b)).size = a.length + 1 + b.length := by rw [strOf_size]; simp; omega
   have hrl' : a.length + 1 + b.length ≤ xs.length := by rw [← strOf_size, ez] at hrl; exact hrl
   have i0 : (0 : Int) ≤ (a.length : Int) := by omega
   have i4 : a.length + 1 ≤ 140737488351232 := by omega
   have i1 : ¬ ((a.length : Int) < 0) := by omega
   have i2 : (a.length : Int) ≤ ((strOf (a ++ 47 :: b)).size : Int) := by rw [ez]; omega
   have i3 : (a.length : Int) + 1 ≤ ((strOf (a ++ 47 :: b)).size : Int) := by rw [ez]; omega
   have e1 : (strOf (a ++ 47 :: b)).extract 0 a.length = strOf a := by rw [strOf_ext]; simp
   have e2 : (strOf (a ++ 47 :: b)).extract (a.length + 1) (strOf (a ++ 47 :: b)).size = strOf b := by
    rw [strOf_ext, ez]
    congr 1
    rw [show (a ++ 47 :: b).drop (a.length + 1) = b by rw [show a ++ 47 :: b = (a ++ [47]) ++ b by simp]; exact List.drop_left' (by simp)]
    exact List.take_of_length_le (by omega)
   gi_wp2_with (refine ⟨trivial, ?_⟩; gi_at_call 190; refine (callsIn_wide.2 (index_at _ a b hno)).mono ?_; rintro e w1 ⟨rfl, rfl⟩)
   refine hR.mono ?_
   rintro e W3 (⟨rfl, hJ3, hk3⟩ | ⟨rfl, hx⟩)
   ·
    have hc3 : W3.heap[bs]? = some (.cells #[.string (strOf (a ++ 47 :: b))] 9 (0, 0)) := (hk3.block bs hs1 hTs).trans hcell
    have cs3 := cell_of hc3 0
    simp only [List.getElem?_toArray, List.getElem?_cons_zero] at cs3
    have cf3 := free_of hc3 0
    have cp3 : W3.cell? ⟨bp, 0, none⟩ = some (.string ⟨#[47]⟩) := ((by rw [World.cell?, World.cell?, hk3.block bp hp1 hTp] : W3.cell? ⟨bp, 0, none⟩ = w1.cell? ⟨bp, 0, none⟩)).trans cp
    have e3 : (W3.setCell ⟨bs, 0, none⟩ (.string (strOf b))).heap[bs]? = some (.cells #[.string (strOf b)] 9 (0, 0)) := by simpa using heap_setCell_same W3 bs 0 _ _ (.string (strOf b)) hc3
    have E2 := Lib.hid (show (strOf (a ++ 47 :: b)).extract (a.length + 1) (a.length + 1 + b.length) = strOf b by rw [← ez]; exact e2)
    have K3 := Lib.hid hc3
    have JJ := Lib.hid (hJ _ _ (W3.setCell ⟨bs, 0, none⟩ (.string (strOf b))) hJ3 (Kpt.of_chg ((Chg.refl [bs] W3).setCell (p := ⟨bs, 0, none⟩) (.inl (by simp)) _) (by have := hk.size; have := hk3.size; omega)))
    clear hc3
    gi_wp2
    go_roundw
    case rel =>
     rw [E2.out]
     exact ⟨pre ++ [a], b, by rw [← hcut]; simp, by omega, e3, JJ.out, (hk.trans (hk3.mono (Nat.le_refl _) (fun x h => List.mem_cons_of_mem _ h))).trans (Kpt.of_chg ((Chg.refl [bs] W3).setCell (p := ⟨bs, 0, none⟩) (.inl (by simp)) _) (by have := hk.size; have := hk3.size; omega) |>.mono (Nat.le_refl _) (by simp))⟩
    case measure =>
     have e4 := cell_of e3 0
     simp only [List.getElem?_toArray, List.getElem?_cons_zero] at e4
     rw [E2.out, e4, cs]
     show (strOf b).size < (strOf (a ++ 47 :: b)).size
     rw [strOf_size, ez]
     omega
   ·
    gi_wp2
    refine bodyPost_ret (results_none rfl _ _ _) rfl ?_
    exact ⟨⟨_, rfl⟩, .inr ⟨_, trivial, hx⟩⟩
end
section
open Go.RowKit
set_option linter.unusedSimpArgs false
set_option linter.unusedVariables false
set_option maxHeartbeats 1000000 in
theorem isForeign_any (w : World) (x : Nat) (hx : x ≤ 1114111) :
  Calls Tryz.prog 171 #[.int .i32 (x : Int)] w fun e w' => e = .returned (.bool (foreignR x)) ∧ ∃ q, w' = w.drewN q := by
 go_enter Tryz.func171, Tryz.ntmps171
 go_wp2
 all_goals
  go_ret
  refine ⟨congrArg (fun b => Ending.returned (Value.bool b)) ?_, 0, rfl⟩
  rw [Bool.eq_iff_iff]
  simp [foreignR]
  omega
theorem idxFunc_okB (s : ByteArray) : ∀ (f pos : Nat), s.size ≤ pos + f → (0 ≤ Lib.idxFuncFrom foreignR true s f pos ↔ (s.data.toList.drop pos).all okB = false)
 | 0, pos, h => by
  have : s.data.toList.drop pos = [] := List.drop_of_length_le (by simpa using h)
  rw [this]
  simp [Lib.idxFuncFrom]
 | f + 1, pos, h => by
  unfold Lib.idxFuncFrom
  by_cases hp : pos < s.size
  ·
   rw [if_pos hp]
   have hp' : pos < s.data.toList.length := by simpa using hp
   have hb := List.getElem?_eq_getElem hp'
   obtain ⟨h1, h2⟩ := foreign_at s pos _ hb
   rw [List.drop_eq_getElem_cons hp', List.all_cons]
   cases ho : okB s.data.toList[pos] with
   | false =>
    rw [ho] at h1
    rw [if_pos (by rw [h1]; rfl)]
    simp
   | true =>
    rw [ho] at h1
    rw [if_neg (by rw [h1]; simp), h2 ho, idxFunc_okB s f (pos + 1) (by omega)]
    simp
  ·
   rw [if_neg hp]
   have : s.data.toList.drop pos = [] := List.drop_of_length_le (by simpa using hp)
   rw [this]
   simp
theorem contains_any (w : World) (l : List UInt8) :
  Calls Tryz.prog 170 #[.string (strOf l), .func (.func 171) #[] #[]] w fun e w' => e = .returned (.bool (!l.all okB)) ∧ Below w.heap.size w w' := by
 refine (Any.strings_ContainsFunc_runes Tryz.laysGw17 171 #[] (enters_of Tryz.func171 (by kernel_rfl) rfl) foreignR (strOf l) w (fun W x hx _ => isForeign_any W x hx)).mono ?_
 rintro e w' ⟨rfl, h⟩
 refine ⟨?_, h⟩
 congr 2
 have := idxFunc_okB (strOf l) (strOf l).size 0 (by omega)
 rw [List.drop_zero, strOf_data] at this
 unfold Lib.idxFunc
 cases ha : l.all okB with
 | true =>
  rw [ha] at this
  simpa using this
 | false =>
  rw [ha] at this
  simpa using this
theorem partL_no {l : List UInt8} (h : l = [] ∨ 12 < l.length ∨ l = [46] ∨ l = [46, 46]) : partL 12 l = false := by
 rcases h with rfl | h | rfl | rfl
 ·
  rfl
 ·
  simp [partL]
  omega
 ·
  rfl
 ·
  rfl
theorem partL_yes {l : List UInt8} (h0 : l ≠ []) (h1 : l.length ≤ 12) (h2 : l ≠ [46]) (h3 : l ≠ [46, 46]) : partL 12 l = l.all okB := by
 have : 1 ≤ l.length := by
  cases l with
  | nil => exact absurd rfl h0
  | cons => simp
 rw [Bool.eq_iff_iff]
 simp [partL, h1, h2, h3, this]
set_option maxHeartbeats 1000000 in
theorem isPart_any (w : World) (l : List UInt8) :
  Calls Tryz.prog 147 #[.string (strOf l)] w fun e w' => e = .returned (.bool (partL 12 l)) ∧ Below w.heap.size w w' := by
 have hs := strOf_size l
 by_cases h : l = [] ∨ 12 < l.length ∨ l = [46] ∨ l = [46, 46]
 ·
  rw [partL_no h]
  rcases h with h | h | h | h
  ·
   subst h
   go_enter Tryz.func147, Tryz.ntmps147
   go_wp2_with fail
   go_ret
   exact ⟨rfl, Below.refl _ _⟩
  ·
   have h1 : l ≠ [] := by rintro rfl; simp at h
   have h2 : (12 : Int) < ((strOf l).size : Int) := by omega
   have h3 : l.isEmpty = false := by simpa using h1
   go_enter Tryz.func147, Tryz.ntmps147
   go_wp2_with fail
   go_ret
   exact ⟨rfl, Below.refl _ _⟩
  ·
   subst h
   go_enter Tryz.func147, Tryz.ntmps147
   go_wp2_with fail
   go_ret
   exact ⟨rfl, Below.refl _ _⟩
  ·
   subst h
   go_enter Tryz.func147, Tryz.ntmps147
   go_wp2_with fail
   go_ret
   exact ⟨rfl, Below.refl _ _⟩
 ·
  simp only [not_or] at h
  obtain ⟨h0, h1, h2, h3⟩ := h
  rw [partL_yes h0 (by omega) h2 h3]
  have e0 : l.isEmpty = false := by simpa using h0
  have e1 : ((strOf l).size : Int) ≤ 12 := by omega
  have e2 : (l == [46]) = false := by simpa using h2
  have e3 : (l == [46, 46]) = false := by simpa using h3
  have e4 : ¬ ((12 : Int) < ((strOf l).size : Int)) := by omega
  go_enter Tryz.func147, Tryz.ntmps147
  go_wp2_with fail
  refine (contains_any _ l).mono ?_
  rintro e w1 ⟨rfl, hb⟩
  go_wp2_with fail
  go_ret
  exact ⟨by simp, hb⟩
end
section
open Go.RowKit
set_option linter.unusedSimpArgs false
set_option linter.unusedVariables false
attribute [local go_sem] Oper.semAt_some
theorem wpIn_scope {P : Program} {n : Nat} {c : Code} {Q : Exit → Act → World → Prop} {a : Act} {w : World} (h : c.wpIn Fence.wide n P (Exit.noGoto Q) a w) : (Code.scope c).wpIn Fence.wide n P Q a w := wpIn_wide.2 (wp_scope_straight (wpIn_wide.1 h))
theorem below_others {W W' : World} (h : Below W.heap.size W W') : KeepsOthers W W' :=
 ⟨h.size, fun k o hk _ => (h.block k (Array.getElem?_eq_some_iff.1 hk).1).trans hk⟩
set_option maxHeartbeats 1000000 in
theorem splitSeq0_any (w : World) (l : List UInt8) : Calls Tryz.prog 169 #[.string (strOf l), .string ⟨#[47]⟩, .int .i64 0] w fun e w' =>
  e = .returned (.func (.func 188) #[] #[.pointer (some ⟨w.heap.size + 1, 0, none⟩), .pointer (some ⟨w.heap.size, 0, none⟩), .pointer (some ⟨w.heap.size + 2, 0, none⟩)]) ∧
  w' = ((w.alloc (.cells #[.string (strOf l)] 9)).alloc (.cells #[.string ⟨#[47]⟩] 9)).alloc (.cells #[.int .i64 0] 3) := by
 go_enter Tryz.func169, Tryz.ntmps169
 go_wp2
 go_ret
 exact ⟨by simp, rfl⟩
set_option maxHeartbeats 1000000 in
theorem splitSeq_any (w : World) (l : List UInt8) : Calls Tryz.prog 146 #[.string (strOf l), .string ⟨#[47]⟩] w fun e w' =>
  e = .returned (.func (.func 188) #[] #[.pointer (some ⟨w.heap.size + 1, 0, none⟩), .pointer (some ⟨w.heap.size, 0, none⟩), .pointer (some ⟨w.heap.size + 2, 0, none⟩)]) ∧
  w' = ((w.alloc (.cells #[.string (strOf l)] 9)).alloc (.cells #[.string ⟨#[47]⟩] 9)).alloc (.cells #[.int .i64 0] 3) := by
 go_enter Tryz.func146, Tryz.ntmps146
 go_wp2_with fail
 refine (splitSeq0_any _ l).mono ?_
 rintro e w1 ⟨rfl, rfl⟩
 go_wp2
 go_ret
 exact ⟨by simp, rfl⟩
theorem all_prefix {p : List UInt8 → Bool} {pre l : List (List UInt8)} {x : List UInt8} (h : (pre ++ [x]) <+: l) (hx : p x = false) : l.all p = false := by
 obtain ⟨t, rfl⟩ := h
 simp [hx]
theorem check_no1 {l : List UInt8} {pre : List (List UInt8)} {x : List UInt8} (h : (pre ++ [x]) <+: cutL l) (hx : partL 12 x = false) : checkL 6 12 l = false := by
 unfold checkL
 rw [all_prefix h hx, Bool.and_false]
theorem check_no2 {l : List UInt8} {pre : List (List UInt8)} {x : List UInt8} (h : (pre ++ [x]) <+: cutL l) (hx : 6 ≤ pre.length) : checkL 6 12 l = false := by
 unfold checkL
 have := h.length_le
 simp at this
 have : ¬ (cutL l).length ≤ 6 := by omega
 simp [this]
set_option maxRecDepth 100000 in
set_option maxHeartbeats 4000000 in
theorem phcheck_any (w : World) (l : List UInt8) (hlen : l.length ≤ 140737488351232) :
  Calls Tryz.prog 114 #[.string (strOf l)] w fun e w' => e = .returned (.int .i64 (if checkL 6 12 l then 0 else 2)) ∧ Below w.heap.size w w' := by
 have h1 : 1 ≤ 5 := by omega
 have hro : Fence.wide.round = none := rfl
 refine (callsIn_wide (n := 5)).1 ?_
 refine callsIn_of_wp_marks Tryz.func114 rfl trivial ?_ hro
 simp only [Tryz.ntmps114, List.size_toArray, List.length_cons, List.length_nil, Nat.reduceAdd, Nat.reduceSub, Array.replicate_succ, Array.replicate_zero, List.push_toArray, List.append_toArray, List.nil_append, List.cons_append]
 gi_wp2
 refine wpIn_scope ?_
 obtain ⟨w1, hw1, C1, b0, b1⟩ := news2 w (.cells #[.int .i64 0] 3) (.cells #[.int .i64 0] 34)
 gi_wp2
 refine wpIn_label ?_
 rw [← hw1]
 have hs1 : w1.heap.size = w.heap.size + 2 := by rw [hw1]; simp
 have bw1 : Below w.heap.size w w1 := by rw [hw1]; exact ((Below.refl _ w).alloc (Nat.le_refl _) _).alloc (by simp) _
 obtain ⟨V, hV, CV, v0, v1, v2⟩ := news3 w1 (.cells #[.string (strOf l)] 9) (.cells #[.string ⟨#[47]⟩] 9) (.cells #[.int .i64 0] 3)
 have hsV : V.heap.size = w1.heap.size + 3 := by rw [hV]; simp
 have bV : Below w1.heap.size w1 V := by rw [hV]; exact (((Below.refl _ w1).alloc (Nat.le_refl _) _).alloc (by simp) _).alloc (by simp; omega) _
 have b0' := (bV.block (w.heap.size) (by omega)).trans b0
 have b1' := (bV.block (w.heap.size + 1) (by omega)).trans b1
 have bwV : Below w.heap.size w V := bw1.trans ⟨bV.os, bV.tape, bV.output, bV.size, fun i hi => bV.block i (by omega)⟩
 have HW1 := Lib.hid hw1
 have HS1 := Lib.hid hs1
 clear hw1 b0 b1 bw1 C1 hs1
 gi_wp2_with (refine ⟨trivial, ?_⟩; gi_at_call 146; refine (callsIn_wide.2 (splitSeq_any _ l)).mono ?_; rintro e w2 ⟨rfl, rfl⟩)
 rw [← hV]
 have hs1 := HS1.out
 refine range_brk (gf := 188) (lb := #[.pointer (some ⟨w1.heap.size + 1, 0, none⟩), .pointer (some ⟨w1.heap.size, 0, none⟩), .pointer (some ⟨w1.heap.size + 2, 0, none⟩)]) rfl (enters_of Tryz.func188 (by kernel_rfl) rfl) (encs := fun x : List UInt8 => #[.string (strOf x)]) (n₁ := V.heap.size) (Nat.le_refl _)
  (S := fun ys => ys = cutL l) (Sp := fun _ => True) (Ex := fun pre x _ => (pre ++ [x]) <+: cutL l) (Si := [w1.heap.size]) (T := [w.heap.size, w.heap.size + 1]) ?si ?seq (fun _ => rfl)
  (fun pre W => (W.heap[w.heap.size]? = some (.cells #[.int .i64 (pre.length : Int)] 3 (0, 0)) ∧ W.heap[w.heap.size + 1]? = some (.cells #[.int .i64 0] 34 (0, 0))) ∧ (pre.length ≤ 6 ∧ pre.all (partL 12) = true) ∧ Below w.heap.size w W ∧ V.heap.size ≤ W.heap.size)
  (fun c pre W => c = .exit 0 ∧ W.heap[w.heap.size + 1]? = some (.cells #[.int .i64 2] 34 (0, 0)) ∧ checkL 6 12 l = false ∧ Below w.heap.size w W)
  ?keep ?keepx ⟨⟨by simpa using b0', b1'⟩, ⟨by simp, rfl⟩, bwV, Nat.le_refl _⟩ ?elem
  (fun x => { tmps := #[.string (strOf l), undef, .int .i64 0, .pointer (some ⟨w.heap.size, 0, none⟩), .pointer (some ⟨w.heap.size + 1, 0, none⟩), .string (strOf x), .string (strOf l), .func (.func 188) #[] #[.pointer (some ⟨w1.heap.size + 1, 0, none⟩), .pointer (some ⟨w1.heap.size, 0, none⟩), .pointer (some ⟨w1.heap.size + 2, 0, none⟩)], .string (strOf x), undef, undef, undef, undef, undef, undef, undef, undef, undef, undef], defers := [] }) ?assign ?body ?done ?stop
 case si => intro x hx; simp at hx; omega
 case seq =>
  intro l' J Jx W hW hJ hJx hY h0
  have hs2 := hW.size
  exact split1_gives 3 l' V.heap.size w1.heap.size (w1.heap.size + 1) (w1.heap.size + 2) [w.heap.size, w.heap.size + 1] l hlen J Jx W (by omega) (by omega) (by omega) (by omega) (by omega) (by simp; omega) (by simp; omega) (by simp; omega) (by omega) hJ hY
   ((hW.cell (p := ⟨w1.heap.size + 1, 0, none⟩) (show w1.heap.size + 1 < V.heap.size by omega)).trans (by rw [cell_of v1]; rfl)) ((hW.block _ (by omega)).trans v0) ((hW.cell (p := ⟨w1.heap.size + 2, 0, none⟩) (show w1.heap.size + 2 < V.heap.size by omega)).trans (by rw [cell_of v2]; rfl)) h0
 case keep =>
  rintro pre A' B' ⟨⟨e4, e5⟩, hp, b, hz⟩ hb
  exact ⟨⟨(hb.block _ (by omega) (by simp; omega)).trans e4, (hb.block _ (by omega) (by simp; omega)).trans e5⟩, hp, b.trans ⟨hb.os, hb.tape, hb.output, hb.size, fun k hk => hb.block k (by omega) (by simp; omega)⟩, Nat.le_trans hz hb.size⟩
 case keepx =>
  rintro c pre A' B' ⟨hc, e5, hp, b⟩ hb
  exact ⟨hc, (hb.block _ (by omega) (by simp; omega)).trans e5, hp, b.trans ⟨hb.os, hb.tape, hb.output, hb.size, fun k hk => hb.block k (by omega) (by simp; omega)⟩⟩
 case elem =>
  rintro pre x W l o o' hl ho hx
  exact hx
 case assign =>
  intro l x W K hK
  clear hs1
  gi_wp2
  exact hK
 case body =>
  rintro l' pre x W ⟨⟨e4, e5⟩, ⟨hp1, hp2⟩, b, hz⟩ hx
  have c4 := cell_of e4 0
  have f4 := free_of e4 0
  have c5 := cell_of e5 0
  have f5 := free_of e5 0
  simp only [List.getElem?_toArray, List.getElem?_cons_zero] at c4 c5
  have q4 : (W.setCell ⟨w.heap.size, 0, none⟩ (.int .i64 ((pre.length : Int) + 1))).heap[w.heap.size]? = some (.cells #[.int .i64 ((pre.length : Int) + 1)] 3 (0, 0)) := by simpa using heap_setCell_same W w.heap.size 0 _ _ (.int .i64 ((pre.length : Int) + 1)) e4
  have q5 : (W.setCell ⟨w.heap.size, 0, none⟩ (.int .i64 ((pre.length : Int) + 1))).heap[w.heap.size + 1]? = some (.cells #[.int .i64 0] 34 (0, 0)) := (heap_setCell_other W ⟨w.heap.size, 0, none⟩ (w.heap.size + 1) _ (by simp)).trans e5
  have bW : Below w.heap.size w (W.setCell ⟨w.heap.size, 0, none⟩ (.int .i64 ((pre.length : Int) + 1))) := b.setCell (p := ⟨w.heap.size, 0, none⟩) (Nat.le_refl _) _
  have HX := Lib.hid hx
  have HP := Lib.hid hp2
  have BW := Lib.hid bW
  have Q4 := Lib.hid q4
  have Q5 := Lib.hid q5
  have HZ := Lib.hid hz
  have KW := Lib.hid ((Chg.refl [w.heap.size] W).setCell (p := ⟨w.heap.size, 0, none⟩) (.inl (by simp)) (.int .i64 ((pre.length : Int) + 1)))
  clear hs1 hx hp2 b e4 e5 q4 q5 bW hz
  have k0 : IntKind.i64.wrap ((pre.length : Int) + 1) = (pre.length : Int) + 1 := IntWalk.i64_in _ (by omega)
  by_cases h6 : 6 ≤ pre.length
  ·
   have i6 : (6 : Int) < (pre.length : Int) + 1 := by omega
   gi_wp2_with (refine ⟨trivial, ?_⟩)
   exact ⟨(KeepsOthers.setCell _ _ _).trans (KeepsOthers.setCell _ _ _), rfl, by simpa using heap_setCell_same _ (w.heap.size + 1) 0 _ _ (.int .i64 2) Q5.out, check_no2 HX.out h6, BW.out.setCell (p := ⟨w.heap.size + 1, 0, none⟩) (Nat.le_succ _) _⟩
  ·
   have i6 : ¬ ((6 : Int) < (pre.length : Int) + 1) := by omega
   have i7 : (pre.length : Int) + 1 ≤ 6 := by omega
   cases hpx : partL 12 x with
   | false =>
    have PX := Lib.hid (fun w => hpx ▸ isPart_any w x)
    have HPX := Lib.hid hpx
    clear hpx
    gi_wp2_with (refine ⟨trivial, ?_⟩; gi_at_call 147; refine (CallsIn.inRound l' (callsIn_wide.2 (PX.out _))).mono ?_; rintro e w9 ⟨rfl, hb9⟩; have p5 := (hb9.block (w.heap.size + 1) (lt_of_heap Q5.out)).trans Q5.out; have c59 := cell_of p5 0; simp only [List.getElem?_toArray, List.getElem?_cons_zero] at c59; have f59 := free_of p5 0; have P5 := Lib.hid p5; have P4 := Lib.hid ((hb9.block w.heap.size (lt_of_heap Q4.out)).trans Q4.out); have HB9 := Lib.hid hb9; clear p5 hb9)
    have hbw : Below w.heap.size w w9 := BW.out.trans ⟨HB9.out.os, HB9.out.tape, HB9.out.output, HB9.out.size, fun i hi => HB9.out.block i (Nat.lt_of_lt_of_le hi BW.out.size)⟩
    exact ⟨((KeepsOthers.setCell _ _ _).trans (below_others HB9.out)).trans (KeepsOthers.setCell _ _ _), rfl, by simpa using heap_setCell_same w9 (w.heap.size + 1) 0 _ _ (.int .i64 2) P5.out, check_no1 HX.out HPX.out, hbw.setCell (p := ⟨w.heap.size + 1, 0, none⟩) (Nat.le_succ _) _⟩
   | true =>
    have PX := Lib.hid (fun w => hpx ▸ isPart_any w x)
    have HPX := Lib.hid hpx
    clear hpx
    gi_wp2_with (refine ⟨trivial, ?_⟩; gi_at_call 147; refine (CallsIn.inRound l' (callsIn_wide.2 (PX.out _))).mono ?_; rintro e w9 ⟨rfl, hb9⟩; have p5 := (hb9.block (w.heap.size + 1) (lt_of_heap Q5.out)).trans Q5.out; have c59 := cell_of p5 0; simp only [List.getElem?_toArray, List.getElem?_cons_zero] at c59; have f59 := free_of p5 0; have P5 := Lib.hid p5; have P4 := Lib.hid ((hb9.block w.heap.size (lt_of_heap Q4.out)).trans Q4.out); have HB9 := Lib.hid hb9; clear p5 hb9)
    have hbw : Below w.heap.size w w9 := BW.out.trans ⟨HB9.out.os, HB9.out.tape, HB9.out.output, HB9.out.size, fun i hi => HB9.out.block i (Nat.lt_of_lt_of_le hi BW.out.size)⟩
    refine ⟨(KeepsOthers.setCell _ _ _).trans (below_others HB9.out), ?_, ⟨⟨by simpa using P4.out, P5.out⟩, ⟨by simp; omega, by simp [HPX.out]; simpa using HP.out⟩, hbw, ?_⟩⟩
    ·
     exact ((Kpt.of_chg KW.out HZ.out).mono (Nat.le_refl _) (by simp)).trans (Kpt.of_below HB9.out (Nat.le_trans HZ.out KW.out.size))
    ·
     exact Nat.le_trans HZ.out (Nat.le_trans KW.out.size HB9.out.size)
 case done =>
  rintro D ys W hD rfl ⟨⟨_, e5⟩, ⟨hp1, hp2⟩, hB, _⟩ hK
  have hck : checkL 6 12 l = true := by simp [checkL, hp1, hp2]
  have c5 := cell_of e5 0
  simp at c5
  have HC := Lib.hid hck
  clear hs1 hck
  gi_wp2
  refine ⟨by simp, .inl ⟨_, _, rfl, run_takeDeferred hK, ?_⟩⟩
  exact ⟨_, results_tmp rfl _ _ _, by rw [HC.out]; rfl, hB.trans (belowK_b (w := w) (Nat.le_refl _) W D _ _ (by have := HS1.out; omega) hK rfl rfl)⟩
 case stop =>
  rintro D c ys W hD _ ⟨rfl, e5, hck, hB⟩ hK
  have c5 := cell_of e5 0
  simp at c5
  have HC := Lib.hid hck
  clear hs1 hck
  refine wpIn_exit ?_
  gi_wp2
  refine ⟨by simp, .inl ⟨_, _, rfl, run_takeDeferred hK, ?_⟩⟩
  exact ⟨_, results_tmp rfl _ _ _, by rw [HC.out]; rfl, hB.trans (belowK_b (w := w) (Nat.le_refl _) W D _ _ (by have := HS1.out; omega) hK rfl rfl)⟩
end
section
open Go.RowKit

set_option maxHeartbeats 400000 in
theorem kinds_any (w : World) : Calls Tryz.prog 144 #[] w fun e w' => e = .returned (.agg #[.bool false, .int .i64 0, .int .i64 0, .bool true, .int .i64 511, .int .i64 1000, .bool true, .int .i64 511, .int .i64 0, .bool true, .int .i64 0, .int .i64 0]) ∧ Chg [] w w' := by
 go_enter Tryz.func144, Tryz.ntmps144
 go_wp2
 refine bodyPost_ret (v := .agg #[.bool false, .int .i64 0, .int .i64 0, .bool true, .int .i64 511, .int .i64 1000, .bool true, .int .i64 511, .int .i64 0, .bool true, .int .i64 0, .int .i64 0]) (by simp [results, Tryz.results144, go_sem]) rfl ?_
 exact ⟨rfl, (Chg.refl _ _).alloc _⟩

def Fine (k m : Int) (n : Nat) : Prop := k = 1 ∧ 0 ≤ m ∧ m ≤ 511 ∧ n ≤ 1000 ∨ k = 2 ∧ 0 ≤ m ∧ m ≤ 511 ∧ n = 0 ∨ k = 3 ∧ m = 0 ∧ n = 0
instance (k m : Int) (n : Nat) : Decidable (Fine k m n) := by unfold Fine; exact inferInstance
def chkE (k m : Int) (n : Nat) : Int := if Fine k m n then 0 else 2
theorem chkE_fine {k m : Int} {n : Nat} (h : Fine k m n) : chkE k m n = 0 := if_pos h
theorem chkE_odd {k m : Int} {n : Nat} (h : ¬ Fine k m n) : chkE k m n = 2 := if_neg h

set_option maxHeartbeats 4000000 in
theorem check_any (w : World) (k m : Int) (A : Option Addr) (n c : Nat) (hn : n ≤ 140737488351232) :
  Calls Tryz.prog 103 #[.agg #[.int .i64 k, .int .i64 m, .slice A n c]] w fun e w' => e = .returned (.int .i64 (chkE k m n)) ∧ Chg [] w w' := by
 have hk : k < 0 ∨ 4 ≤ k ∨ k = 0 ∨ k = 1 ∨ k = 2 ∨ k = 3 := by omega
 have go : ∀ v, chkE k m n = v → Calls Tryz.prog 103 #[.agg #[.int .i64 k, .int .i64 m, .slice A n c]] w (fun e w' => e = .returned (.int .i64 v) ∧ Chg [] w w') → Calls Tryz.prog 103 #[.agg #[.int .i64 k, .int .i64 m, .slice A n c]] w fun e w' => e = .returned (.int .i64 (chkE k m n)) ∧ Chg [] w w' := fun v hv h => hv ▸ h
 rcases hk with h | h | h | h | h | h
 ·
  refine go 2 (chkE_odd (by unfold Fine; omega)) ?_
  clear go
  go_enter Tryz.func103, Tryz.ntmps103
  go_wp2_with fail
  refine (kinds_any _).mono ?_
  rintro e w1 ⟨rfl, hc⟩
  have q := hc.at_ (heap_alloc_new w (.cells #[_, _, _] 26)) (by simp)
  have q0 := cell_of q 0
  have q1 := cell_of q 1
  have q2 := cell_of q 2
  simp only [List.getElem?_toArray, List.getElem?_cons_succ, List.getElem?_cons_zero] at q0 q1 q2
  have hz : w.heap.size < w1.heap.size := lt_of_cell q0
  have C1 := Lib.hid (((Chg.refl [] w).alloc _).trans hc)
  clear hc q
  generalize w.heap.size = s at *
  go_wp2
  go_ret
  exact ⟨rfl, C1.out.alloc _⟩
 ·
  refine go 2 (chkE_odd (by unfold Fine; omega)) ?_
  clear go
  have h' : ¬ k < 0 := by omega
  go_enter Tryz.func103, Tryz.ntmps103
  go_wp2_with fail
  refine (kinds_any _).mono ?_
  rintro e w1 ⟨rfl, hc⟩
  have q := hc.at_ (heap_alloc_new w (.cells #[_, _, _] 26)) (by simp)
  have q0 := cell_of q 0
  have q1 := cell_of q 1
  have q2 := cell_of q 2
  simp only [List.getElem?_toArray, List.getElem?_cons_succ, List.getElem?_cons_zero] at q0 q1 q2
  have hz : w.heap.size < w1.heap.size := lt_of_cell q0
  have C1 := Lib.hid (((Chg.refl [] w).alloc _).trans hc)
  clear hc q
  generalize w.heap.size = s at *
  go_wp2
  go_ret
  exact ⟨rfl, C1.out.alloc _⟩
 ·
  refine go 2 (chkE_odd (by unfold Fine; omega)) ?_
  subst h
  clear go
  go_enter Tryz.func103, Tryz.ntmps103
  go_wp2_with fail
  refine (kinds_any _).mono ?_
  rintro e w1 ⟨rfl, hc⟩
  have q := hc.at_ (heap_alloc_new w (.cells #[_, _, _] 26)) (by simp)
  have q0 := cell_of q 0
  have q1 := cell_of q 1
  have q2 := cell_of q 2
  simp only [List.getElem?_toArray, List.getElem?_cons_succ, List.getElem?_cons_zero] at q0 q1 q2
  have hz : w.heap.size < w1.heap.size := lt_of_cell q0
  have C1 := Lib.hid (((Chg.refl [] w).alloc _).trans hc)
  clear hc q
  generalize w.heap.size = s at *
  go_wp2
  go_ret
  exact ⟨rfl, (C1.out.alloc _).alloc _⟩
 ·
  subst h
  by_cases m0 : m < 0
  ·
   refine go 2 (chkE_odd (by unfold Fine; omega)) ?_
   clear go
   go_enter Tryz.func103, Tryz.ntmps103
   go_wp2_with fail
   refine (kinds_any _).mono ?_
   rintro e w1 ⟨rfl, hc⟩
   have q := hc.at_ (heap_alloc_new w (.cells #[_, _, _] 26)) (by simp)
   have q0 := cell_of q 0
   have q1 := cell_of q 1
   have q2 := cell_of q 2
   simp only [List.getElem?_toArray, List.getElem?_cons_succ, List.getElem?_cons_zero] at q0 q1 q2
   have hz : w.heap.size < w1.heap.size := lt_of_cell q0
   have C1 := Lib.hid (((Chg.refl [] w).alloc _).trans hc)
   clear hc q
   generalize w.heap.size = s at *
   go_wp2
   go_ret
   exact ⟨rfl, (C1.out.alloc _).alloc _⟩
  by_cases m1 : 511 < m
  ·
   refine go 2 (chkE_odd (by unfold Fine; omega)) ?_
   clear go
   go_enter Tryz.func103, Tryz.ntmps103
   go_wp2_with fail
   refine (kinds_any _).mono ?_
   rintro e w1 ⟨rfl, hc⟩
   have q := hc.at_ (heap_alloc_new w (.cells #[_, _, _] 26)) (by simp)
   have q0 := cell_of q 0
   have q1 := cell_of q 1
   have q2 := cell_of q 2
   simp only [List.getElem?_toArray, List.getElem?_cons_succ, List.getElem?_cons_zero] at q0 q1 q2
   have hz : w.heap.size < w1.heap.size := lt_of_cell q0
   have C1 := Lib.hid (((Chg.refl [] w).alloc _).trans hc)
   clear hc q
   generalize w.heap.size = s at *
   go_wp2
   go_ret
   exact ⟨rfl, (C1.out.alloc _).alloc _⟩
  by_cases n1 : 1000 < n
  ·
   refine go 2 (chkE_odd (by unfold Fine; omega)) ?_
   clear go
   go_enter Tryz.func103, Tryz.ntmps103
   go_wp2_with fail
   refine (kinds_any _).mono ?_
   rintro e w1 ⟨rfl, hc⟩
   have q := hc.at_ (heap_alloc_new w (.cells #[_, _, _] 26)) (by simp)
   have q0 := cell_of q 0
   have q1 := cell_of q 1
   have q2 := cell_of q 2
   simp only [List.getElem?_toArray, List.getElem?_cons_succ, List.getElem?_cons_zero] at q0 q1 q2
   have hz : w.heap.size < w1.heap.size := lt_of_cell q0
   have C1 := Lib.hid (((Chg.refl [] w).alloc _).trans hc)
   clear hc q
   generalize w.heap.size = s at *
   go_wp2
   go_ret
   exact ⟨rfl, (C1.out.alloc _).alloc _⟩
  ·
   refine go 0 (chkE_fine (by unfold Fine; omega)) ?_
   clear go
   go_enter Tryz.func103, Tryz.ntmps103
   go_wp2_with fail
   refine (kinds_any _).mono ?_
   rintro e w1 ⟨rfl, hc⟩
   have q := hc.at_ (heap_alloc_new w (.cells #[_, _, _] 26)) (by simp)
   have q0 := cell_of q 0
   have q1 := cell_of q 1
   have q2 := cell_of q 2
   simp only [List.getElem?_toArray, List.getElem?_cons_succ, List.getElem?_cons_zero] at q0 q1 q2
   have hz : w.heap.size < w1.heap.size := lt_of_cell q0
   have C1 := Lib.hid (((Chg.refl [] w).alloc _).trans hc)
   clear hc q
   generalize w.heap.size = s at *
   go_wp2
   go_ret
   exact ⟨rfl, (C1.out.alloc _).alloc _⟩
 ·
  subst h
  by_cases m0 : m < 0
  ·
   refine go 2 (chkE_odd (by unfold Fine; omega)) ?_
   clear go
   go_enter Tryz.func103, Tryz.ntmps103
   go_wp2_with fail
   refine (kinds_any _).mono ?_
   rintro e w1 ⟨rfl, hc⟩
   have q := hc.at_ (heap_alloc_new w (.cells #[_, _, _] 26)) (by simp)
   have q0 := cell_of q 0
   have q1 := cell_of q 1
   have q2 := cell_of q 2
   simp only [List.getElem?_toArray, List.getElem?_cons_succ, List.getElem?_cons_zero] at q0 q1 q2
   have hz : w.heap.size < w1.heap.size := lt_of_cell q0
   have C1 := Lib.hid (((Chg.refl [] w).alloc _).trans hc)
   clear hc q
   generalize w.heap.size = s at *
   go_wp2
   go_ret
   exact ⟨rfl, (C1.out.alloc _).alloc _⟩
  by_cases m1 : 511 < m
  ·
   refine go 2 (chkE_odd (by unfold Fine; omega)) ?_
   clear go
   go_enter Tryz.func103, Tryz.ntmps103
   go_wp2_with fail
   refine (kinds_any _).mono ?_
   rintro e w1 ⟨rfl, hc⟩
   have q := hc.at_ (heap_alloc_new w (.cells #[_, _, _] 26)) (by simp)
   have q0 := cell_of q 0
   have q1 := cell_of q 1
   have q2 := cell_of q 2
   simp only [List.getElem?_toArray, List.getElem?_cons_succ, List.getElem?_cons_zero] at q0 q1 q2
   have hz : w.heap.size < w1.heap.size := lt_of_cell q0
   have C1 := Lib.hid (((Chg.refl [] w).alloc _).trans hc)
   clear hc q
   generalize w.heap.size = s at *
   go_wp2
   go_ret
   exact ⟨rfl, (C1.out.alloc _).alloc _⟩
  by_cases n1 : 0 < n
  ·
   refine go 2 (chkE_odd (by unfold Fine; omega)) ?_
   clear go
   go_enter Tryz.func103, Tryz.ntmps103
   go_wp2_with fail
   refine (kinds_any _).mono ?_
   rintro e w1 ⟨rfl, hc⟩
   have q := hc.at_ (heap_alloc_new w (.cells #[_, _, _] 26)) (by simp)
   have q0 := cell_of q 0
   have q1 := cell_of q 1
   have q2 := cell_of q 2
   simp only [List.getElem?_toArray, List.getElem?_cons_succ, List.getElem?_cons_zero] at q0 q1 q2
   have hz : w.heap.size < w1.heap.size := lt_of_cell q0
   have C1 := Lib.hid (((Chg.refl [] w).alloc _).trans hc)
   clear hc q
   generalize w.heap.size = s at *
   go_wp2
   go_ret
   exact ⟨rfl, (C1.out.alloc _).alloc _⟩
  ·
   obtain rfl : n = 0 := by omega
   refine go 0 (chkE_fine (by unfold Fine; omega)) ?_
   clear go
   go_enter Tryz.func103, Tryz.ntmps103
   go_wp2_with fail
   refine (kinds_any _).mono ?_
   rintro e w1 ⟨rfl, hc⟩
   have q := hc.at_ (heap_alloc_new w (.cells #[_, _, _] 26)) (by simp)
   have q0 := cell_of q 0
   have q1 := cell_of q 1
   have q2 := cell_of q 2
   simp only [List.getElem?_toArray, List.getElem?_cons_succ, List.getElem?_cons_zero] at q0 q1 q2
   have hz : w.heap.size < w1.heap.size := lt_of_cell q0
   have C1 := Lib.hid (((Chg.refl [] w).alloc _).trans hc)
   clear hc q
   generalize w.heap.size = s at *
   go_wp2
   go_ret
   exact ⟨rfl, (C1.out.alloc _).alloc _⟩
 ·
  subst h
  by_cases m0 : m < 0
  ·
   refine go 2 (chkE_odd (by unfold Fine; omega)) ?_
   clear go
   go_enter Tryz.func103, Tryz.ntmps103
   go_wp2_with fail
   refine (kinds_any _).mono ?_
   rintro e w1 ⟨rfl, hc⟩
   have q := hc.at_ (heap_alloc_new w (.cells #[_, _, _] 26)) (by simp)
   have q0 := cell_of q 0
   have q1 := cell_of q 1
   have q2 := cell_of q 2
   simp only [List.getElem?_toArray, List.getElem?_cons_succ, List.getElem?_cons_zero] at q0 q1 q2
   have hz : w.heap.size < w1.heap.size := lt_of_cell q0
   have C1 := Lib.hid (((Chg.refl [] w).alloc _).trans hc)
   clear hc q
   generalize w.heap.size = s at *
   go_wp2
   go_ret
   exact ⟨rfl, (C1.out.alloc _).alloc _⟩
  by_cases m1 : 0 < m
  ·
   refine go 2 (chkE_odd (by unfold Fine; omega)) ?_
   clear go
   go_enter Tryz.func103, Tryz.ntmps103
   go_wp2_with fail
   refine (kinds_any _).mono ?_
   rintro e w1 ⟨rfl, hc⟩
   have q := hc.at_ (heap_alloc_new w (.cells #[_, _, _] 26)) (by simp)
   have q0 := cell_of q 0
   have q1 := cell_of q 1
   have q2 := cell_of q 2
   simp only [List.getElem?_toArray, List.getElem?_cons_succ, List.getElem?_cons_zero] at q0 q1 q2
   have hz : w.heap.size < w1.heap.size := lt_of_cell q0
   have C1 := Lib.hid (((Chg.refl [] w).alloc _).trans hc)
   clear hc q
   generalize w.heap.size = s at *
   go_wp2
   go_ret
   exact ⟨rfl, (C1.out.alloc _).alloc _⟩
  obtain rfl : m = 0 := by omega
  by_cases n1 : 0 < n
  ·
   refine go 2 (chkE_odd (by unfold Fine; omega)) ?_
   clear go
   go_enter Tryz.func103, Tryz.ntmps103
   go_wp2_with fail
   refine (kinds_any _).mono ?_
   rintro e w1 ⟨rfl, hc⟩
   have q := hc.at_ (heap_alloc_new w (.cells #[_, _, _] 26)) (by simp)
   have q0 := cell_of q 0
   have q1 := cell_of q 1
   have q2 := cell_of q 2
   simp only [List.getElem?_toArray, List.getElem?_cons_succ, List.getElem?_cons_zero] at q0 q1 q2
   have hz : w.heap.size < w1.heap.size := lt_of_cell q0
   have C1 := Lib.hid (((Chg.refl [] w).alloc _).trans hc)
   clear hc q
   generalize w.heap.size = s at *
   go_wp2
   go_ret
   exact ⟨rfl, (C1.out.alloc _).alloc _⟩
  ·
   obtain rfl : n = 0 := by omega
   refine go 0 (chkE_fine (by unfold Fine; omega)) ?_
   clear go
   go_enter Tryz.func103, Tryz.ntmps103
   go_wp2_with fail
   refine (kinds_any _).mono ?_
   rintro e w1 ⟨rfl, hc⟩
   have q := hc.at_ (heap_alloc_new w (.cells #[_, _, _] 26)) (by simp)
   have q0 := cell_of q 0
   have q1 := cell_of q 1
   have q2 := cell_of q 2
   simp only [List.getElem?_toArray, List.getElem?_cons_succ, List.getElem?_cons_zero] at q0 q1 q2
   have hz : w.heap.size < w1.heap.size := lt_of_cell q0
   have C1 := Lib.hid (((Chg.refl [] w).alloc _).trans hc)
   clear hc q
   generalize w.heap.size = s at *
   go_wp2
   go_ret
   exact ⟨rfl, (C1.out.alloc _).alloc _⟩
end
section
open Go.RowKit Go.Lib
set_option linter.unusedSimpArgs false
set_option linter.unusedVariables false


def evOk (e : EvP) : Nat → Prop
 | 0 => chkD e.n e.s = 0
 | 1 => checkL 6 12 e.p = true
 | 2 => chkE e.k e.m e.b.length = 0
 | 3 => chkS e.q = 0
 | _ => (if chkS e.q = 0 then lastL e.n e.q else 0) < e.s
instance (e : EvP) (i : Nat) : Decidable (evOk e i) := by unfold evOk; split <;> exact inferInstance
def EvOk (e : EvP) : Prop := evOk e 0 ∧ evOk e 1 ∧ evOk e 2 ∧ evOk e 3 ∧ evOk e 4
instance (e : EvP) : Decidable (EvOk e) := by unfold EvOk; exact inferInstance
def chkEv (e : EvP) : Int := if EvOk e then 0 else 2
theorem chkEv_no {e : EvP} (i : Nat) (hi : i ≤ 4) (h : ¬ evOk e i) : chkEv e = 2 := by
 unfold chkEv
 rw [if_neg]
 rintro ⟨h0, h1, h2, h3, h4⟩
 match i, hi with
 | 0, _ => exact h h0
 | 1, _ => exact h h1
 | 2, _ => exact h h2
 | 3, _ => exact h h3
 | 4, _ => exact h h4
theorem chkEv_yes {e : EvP} (h : ∀ i, i < 5 → evOk e i) : chkEv e = 0 := by
 unfold chkEv
 rw [if_pos ⟨h 0 (by omega), h 1 (by omega), h 2 (by omega), h 3 (by omega), h 4 (by omega)⟩]
theorem chkEv_two (e : EvP) : chkEv e = 0 ∨ chkEv e = 2 := by unfold chkEv; split <;> simp
def EvSm (e : EvP) : Prop := e.p.length ≤ 10000000 ∧ e.b.length ≤ 140737488351232 ∧ e.q.length ≤ 140737488351232
theorem below_chg8 {w w' : World} (h : Below w.heap.size w w') : Chg [] w w' := Chg.ofBelow h (by omega) []

set_option maxRecDepth 100000 in
set_option maxHeartbeats 4000000 in
theorem evadot_any (w : World) (g : Nat) (x : EvT) (e : EvP) (hg : w.heap[g]? = some (.cells #[.int .i64 x.n, .int .i64 x.s, .string x.p, .int .i64 x.k, .int .i64 x.m, .slice x.A x.l x.c, .slice x.B x.bl x.bc] 77 (0, 0))) (h : EvR w x e) (hs : EvSm e) :
  Calls Tryz.prog 58 #[.pointer (some ⟨g, 0, none⟩)] w fun r w' => r = .returned (.bool (decide (evOk e 0))) ∧ Chg [] w w' := by
 have z0 := cell_of hg 0
 have z1 := cell_of hg 1
 simp only [List.getElem?_toArray, List.getElem?_cons_succ, List.getElem?_cons_zero] at z0 z1
 clear hg
 have HS := Lib.hid hs
 have HR := Lib.hid h
 generalize hv : decide (evOk e 0) = v
 have HV := Lib.hid hv
 clear hv hs
 clear h
 go_enter Tryz.func58, Tryz.ntmps58
 go_wp2_with fail
 refine (dcheck_any w x.n x.s).mono ?_
 rintro r w1 ⟨rfl, hc⟩
 have C := Lib.hid (hc)
 clear hc
 by_cases hk : evOk e 0
 ·
  obtain rfl : v = true := by rw [← HV.out]; exact decide_eq_true hk
  rw [show chkD x.n x.s = 0 by rw [HR.out.n, HR.out.s]; exact hk]
  clear hk HV
  go_wp2
  go_ret
  exact ⟨rfl, C.out⟩
 ·
  obtain rfl : v = false := by rw [← HV.out]; exact decide_eq_false hk
  rw [show chkD x.n x.s = 2 by rw [HR.out.n, HR.out.s]; exact chkD_odd (fun q => hk (chkD_fine q))]
  clear hk HV
  go_wp2
  go_ret
  exact ⟨rfl, C.out⟩

set_option maxRecDepth 100000 in
set_option maxHeartbeats 4000000 in
theorem evapath_any (w : World) (g : Nat) (x : EvT) (e : EvP) (hg : w.heap[g]? = some (.cells #[.int .i64 x.n, .int .i64 x.s, .string x.p, .int .i64 x.k, .int .i64 x.m, .slice x.A x.l x.c, .slice x.B x.bl x.bc] 77 (0, 0))) (h : EvR w x e) (hs : EvSm e) :
  Calls Tryz.prog 59 #[.pointer (some ⟨g, 0, none⟩)] w fun r w' => r = .returned (.bool (decide (evOk e 1))) ∧ Chg [] w w' := by
 have z2 := cell_of hg 2
 simp only [List.getElem?_toArray, List.getElem?_cons_succ, List.getElem?_cons_zero] at z2
 clear hg
 have HS := Lib.hid hs
 have HR := Lib.hid h
 generalize hv : decide (evOk e 1) = v
 have HV := Lib.hid hv
 clear hv hs
 have hp := h.p
 rw [hp] at z2
 clear hp
 clear h
 go_enter Tryz.func59, Tryz.ntmps59
 go_wp2_with fail
 refine (phcheck_any w e.p (by have := HS.out.1; omega)).mono ?_
 rintro r w1 ⟨rfl, hc⟩
 have C := Lib.hid (below_chg8 hc)
 clear hc
 by_cases hk : evOk e 1
 ·
  obtain rfl : v = true := by rw [← HV.out]; exact decide_eq_true hk
  rw [if_pos (show checkL 6 12 e.p = true from hk)]
  clear hk HV
  go_wp2
  go_ret
  exact ⟨rfl, C.out⟩
 ·
  obtain rfl : v = false := by rw [← HV.out]; exact decide_eq_false hk
  rw [if_neg (show ¬ checkL 6 12 e.p = true from hk)]
  clear hk HV
  go_wp2
  go_ret
  exact ⟨rfl, C.out⟩

set_option maxRecDepth 100000 in
set_option maxHeartbeats 4000000 in
theorem evaeff_any (w : World) (g : Nat) (x : EvT) (e : EvP) (hg : w.heap[g]? = some (.cells #[.int .i64 x.n, .int .i64 x.s, .string x.p, .int .i64 x.k, .int .i64 x.m, .slice x.A x.l x.c, .slice x.B x.bl x.bc] 77 (0, 0))) (h : EvR w x e) (hs : EvSm e) :
  Calls Tryz.prog 60 #[.pointer (some ⟨g, 0, none⟩)] w fun r w' => r = .returned (.bool (decide (evOk e 2))) ∧ Chg [] w w' := by
 have z3 := cell_of hg 3
 have z4 := cell_of hg 4
 have z5 := cell_of hg 5
 simp only [List.getElem?_toArray, List.getElem?_cons_succ, List.getElem?_cons_zero] at z3 z4 z5
 clear hg
 have HS := Lib.hid hs
 have HR := Lib.hid h
 generalize hv : decide (evOk e 2) = v
 have HV := Lib.hid hv
 clear hv hs
 clear h
 go_enter Tryz.func60, Tryz.ntmps60
 go_wp2_with fail
 refine (check_any w x.k x.m x.A x.l x.c (by rw [HR.out.l]; exact HS.out.2.1)).mono ?_
 rintro r w1 ⟨rfl, hc⟩
 have C := Lib.hid (hc)
 clear hc
 by_cases hk : evOk e 2
 ·
  obtain rfl : v = true := by rw [← HV.out]; exact decide_eq_true hk
  rw [show chkE x.k x.m x.l = 0 by rw [HR.out.k, HR.out.m, HR.out.l]; exact hk]
  clear hk HV
  go_wp2
  go_ret
  exact ⟨rfl, C.out⟩
 ·
  obtain rfl : v = false := by rw [← HV.out]; exact decide_eq_false hk
  rw [show chkE x.k x.m x.l = 2 by rw [HR.out.k, HR.out.m, HR.out.l]; unfold chkE; rw [if_neg]; exact fun q => hk (chkE_fine q)]
  clear hk HV
  go_wp2
  go_ret
  exact ⟨rfl, C.out⟩

set_option maxRecDepth 100000 in
set_option maxHeartbeats 4000000 in
theorem evapast_any (w : World) (g : Nat) (x : EvT) (e : EvP) (hg : w.heap[g]? = some (.cells #[.int .i64 x.n, .int .i64 x.s, .string x.p, .int .i64 x.k, .int .i64 x.m, .slice x.A x.l x.c, .slice x.B x.bl x.bc] 77 (0, 0))) (h : EvR w x e) (hs : EvSm e) :
  Calls Tryz.prog 61 #[.pointer (some ⟨g, 0, none⟩)] w fun r w' => r = .returned (.bool (decide (evOk e 3))) ∧ Chg [] w w' := by
 have z6 := cell_of hg 6
 simp only [List.getElem?_toArray, List.getElem?_cons_succ, List.getElem?_cons_zero] at z6
 clear hg
 have HS := Lib.hid hs
 have HR := Lib.hid h
 generalize hv : decide (evOk e 3) = v
 have HV := Lib.hid hv
 clear hv hs
 clear h
 go_enter Tryz.func61, Tryz.ntmps61
 go_wp2_with fail
 refine (pacheck_any w x.B x.bl x.bc e.q HR.out.B (by rw [HR.out.bl]; exact HS.out.2.2)).mono ?_
 rintro r w1 ⟨rfl, hc⟩
 have C := Lib.hid (hc)
 clear hc
 by_cases hk : evOk e 3
 ·
  obtain rfl : v = true := by rw [← HV.out]; exact decide_eq_true hk
  rw [show chkS e.q = 0 from hk]
  clear hk HV
  go_wp2
  go_ret
  exact ⟨rfl, C.out⟩
 ·
  obtain rfl : v = false := by rw [← HV.out]; exact decide_eq_false hk
  rw [show chkS e.q = 2 from (chk_two e.q).resolve_left hk]
  clear hk HV
  go_wp2
  go_ret
  exact ⟨rfl, C.out⟩

set_option maxRecDepth 100000 in
set_option maxHeartbeats 4000000 in
theorem evabehind_any (w : World) (g : Nat) (x : EvT) (e : EvP) (hg : w.heap[g]? = some (.cells #[.int .i64 x.n, .int .i64 x.s, .string x.p, .int .i64 x.k, .int .i64 x.m, .slice x.A x.l x.c, .slice x.B x.bl x.bc] 77 (0, 0))) (h : EvR w x e) (hs : EvSm e) :
  Calls Tryz.prog 62 #[.pointer (some ⟨g, 0, none⟩)] w fun r w' => r = .returned (.bool (decide (evOk e 4))) ∧ Chg [] w w' := by
 have z0 := cell_of hg 0
 have z1 := cell_of hg 1
 have z6 := cell_of hg 6
 simp only [List.getElem?_toArray, List.getElem?_cons_succ, List.getElem?_cons_zero] at z0 z1 z6
 clear hg
 have HS := Lib.hid hs
 have HR := Lib.hid h
 generalize hv : decide (evOk e 4) = v
 have HV := Lib.hid hv
 clear hv hs
 have hn := h.n
 have hse := h.s
 have hbl := h.bl
 rw [hn] at z0
 rw [hse] at z1
 rw [hbl] at z6
 clear hn hse hbl h
 generalize hw : (if chkS e.q = 0 then lastL e.n e.q else 0) = lv
 have LV := Lib.hid hw
 have VD : Hid (decide (lv < e.s) = v) := Lib.hid (by rw [← HV.out, ← hw]; rfl)
 clear hw HV
 go_enter Tryz.func62, Tryz.ntmps62
 go_upto_region 1 with fail
 refine wp_region_held_drew (S := fun w' => w'.cell? ⟨g, 0, none⟩ = some (.int .i64 e.n) ∧ w'.cell? ⟨g, 1, none⟩ = some (.int .i64 e.s) ∧ w'.cell? ⟨g, 6, none⟩ = some (.slice x.B e.q.length x.bc)) (by kernel_rfl) ⟨z0, z1, z6⟩ (fun hHeld => ?_)
 have CC : Hid (Chg [] w w.drew) := Lib.hid (Chg.refl [] w).drew
 have DX : Hid (∀ w', Chg [] w w' → w'.cell? ⟨g, 0, none⟩ = some (.int .i64 e.n) ∧ w'.cell? ⟨g, 1, none⟩ = some (.int .i64 e.s) ∧ w'.cell? ⟨g, 6, none⟩ = some (.slice x.B e.q.length x.bc)) := Lib.hid (fun w' hc => ⟨hc.cell z0 (by simp), hc.cell z1 (by simp), hc.cell z6 (by simp)⟩)
 clear z0 z1 z6 hHeld
 generalize w.drew = wc at *
 refine sy 0 3 rfl rfl ?_ (hS := (DX.out _ CC.out))
 try simp only [Act.put, sA, s0, s1]
 refine sy 1 4 rfl rfl ?_ (hS := (DX.out _ CC.out))
 try simp only [Act.put, sA, s0, s1]
 refine sy 2 5 rfl rfl ?_ (hS := (DX.out _ CC.out))
 try simp only [Act.put, sA, s0, s1]
 refine sy 3 6 rfl rfl ?_ (hS := (DX.out _ CC.out))
 try simp only [Act.put, sA, s0, s1]
 refine sy 4 7 rfl rfl ?_ (hS := (DX.out _ CC.out)) (hy := by (intro w hSw; (try dsimp only at hSw); obtain ⟨q0, q1, q2⟩ := hSw; go_simp; try with_reducible rfl))
 try simp only [Act.put, sA, s0, s1]
 refine sy 5 8 rfl rfl ?_ (hS := (DX.out _ CC.out))
 try simp only [Act.put, sA, s0, s1]
 refine sy 6 9 rfl rfl ?_ (hS := (DX.out _ CC.out))
 try simp only [Act.put, sA, s0, s1]
 refine sy 7 10 rfl rfl ?_ (hS := (DX.out _ CC.out))
 try simp only [Act.put, sA, s0, s1]
 refine sy 8 11 rfl rfl ?_ (hS := (DX.out _ CC.out))
 try simp only [Act.put, sA, s0, s1]
 refine sy 9 12 rfl rfl ?_ (hS := (DX.out _ CC.out))
 try simp only [Act.put, sA, s0, s1]
 refine sy 10 13 rfl rfl ?_ (hS := (DX.out _ CC.out)) (hy := by (intro w hSw; (try dsimp only at hSw); obtain ⟨q0, q1, q2⟩ := hSw; go_simp; try with_reducible rfl))
 try simp only [Act.put, sA, s0, s1]
 refine sy 12 15 rfl rfl ?_ (hS := (DX.out _ CC.out))
 try simp only [Act.put, sA, s0, s1]
 refine sy 13 16 rfl rfl ?_ (hS := (DX.out _ CC.out))
 try simp only [Act.put, sA, s0, s1]
 refine sy 14 17 rfl rfl ?_ (hS := (DX.out _ CC.out))
 try simp only [Act.put, sA, s0, s1]
 refine sy 15 18 rfl rfl ?_ (hS := (DX.out _ CC.out))
 try simp only [Act.put, sA, s0, s1]
 refine sy 16 19 rfl rfl ?_ (hS := (DX.out _ CC.out))
 try simp only [Act.put, sA, s0, s1]
 refine sy 17 20 rfl rfl ?_ (hS := (DX.out _ CC.out)) (hy := by (intro w hSw; (try dsimp only at hSw); obtain ⟨q0, q1, q2⟩ := hSw; go_simp; try with_reducible rfl))
 try simp only [Act.put, sA, s0, s1]
 refine wpAnyH_ready (rs := [11]) (by kernel_rfl) (by simp) ?_
 refine AllReadyH.cons rfl (fun K hK => ?_) AllReadyH.nil
 replace hK := Lib.hid hK
 go_simp
 refine (last_any wc x.B x.bc e.q e.n (by rw [← HR.out.bl]; exact HR.out.B.chg CC.out (by simp)) HS.out.2.2).mono ?_
 rintro r wc ⟨rfl, hc⟩
 rw [LV.out]
 replace CC := Lib.hid (CC.out.trans hc)
 clear hc
 refine hK.out _ _ (DX.out _ CC.out) (fun hHeld => ?_)
 clear hK K
 try simp only [Act.put, sA, s0, s1]
 refine sy 18 21 rfl rfl ?_ (hS := (DX.out _ CC.out))
 try simp only [Act.put, sA, s0, s1]
 refine sy 19 2 rfl rfl ?_ (hS := (DX.out _ CC.out))
 try simp only [Act.put, sA, s0, s1]
 refine wpAnyH_done (by kernel_rfl) ?_ _
 clear hHeld
 rw [VD.out]
 go_wp2
 go_ret
 exact ⟨rfl, CC.out⟩

set_option maxRecDepth 100000 in
set_option maxHeartbeats 8000000 in
theorem evcheck_any (w : World) (x : EvT) (e : EvP) (h : EvR w x e) (hs : EvSm e) :
  Calls Tryz.prog 14 #[.agg #[.int .i64 x.n, .int .i64 x.s, .string x.p, .int .i64 x.k, .int .i64 x.m, .slice x.A x.l x.c, .slice x.B x.bl x.bc]] w fun r w' => r = .returned (.int .i64 (chkEv e)) ∧ Chg [] w w' := by
 obtain ⟨w3, hw, hc, b0, b1, b2⟩ := news3 w (.cells #[.int .i64 x.n, .int .i64 x.s, .string x.p, .int .i64 x.k, .int .i64 x.m, .slice x.A x.l x.c, .slice x.B x.bl x.bc] 29) (.cells #[.int .i64 x.n, .int .i64 x.s, .string x.p, .int .i64 x.k, .int .i64 x.m, .slice x.A x.l x.c, .slice x.B x.bl x.bc] 77) (.cells #[.func (.func 58) #[.pointer (some ⟨w.heap.size + 1, 0, none⟩)] #[], .func (.func 59) #[.pointer (some ⟨w.heap.size + 1, 0, none⟩)] #[], .func (.func 60) #[.pointer (some ⟨w.heap.size + 1, 0, none⟩)] #[], .func (.func 61) #[.pointer (some ⟨w.heap.size + 1, 0, none⟩)] #[], .func (.func 62) #[.pointer (some ⟨w.heap.size + 1, 0, none⟩)] #[]] 32)
 have W3 := Lib.hid hw
 have HR := Lib.hid (h.chg hc)
 have C := Lib.hid hc
 have HS := Lib.hid hs
 generalize hv : chkEv e = v
 have HV := Lib.hid hv
 clear hw hc h hs hv
 go_enter Tryz.func14, Tryz.ntmps14
 go_upto_region 3 with fail
 rw [← W3.out]
 generalize w.heap.size + 2 = g2 at *
 generalize w.heap.size + 1 = g1 at *
 have B1 := Lib.hid b1
 have B2 := Lib.hid b2
 clear b0 b1 b2 W3
 go_loopw [21] (fun v21 wr => ∃ (j : Nat), j ≤ 5 ∧ v21 = .int .i64 j ∧ Hid (∀ i, i < j → evOk e i) ∧ Hid (Chg [] w3 wr)) (fun v21 _ => 5 - (RowKit.intOf v21).toNat)
 case atStart => exact ⟨0, Nat.zero_le _, rfl, Lib.hid (fun i hi => absurd hi (Nat.not_lt_zero _)), Chg.refl _ _⟩
 case round =>
  obtain ⟨j, hj, rfl, FN, RC⟩ := hrel
  have bb := RC.out.at_ B2.out (by simp)
  by_cases hj0 : j = 0
  ·
   subst hj0
   have z := cell_of bb 0
   simp only [List.getElem?_toArray, List.getElem?_cons_succ, List.getElem?_cons_zero] at z
   clear bb
   go_wp2_with fail
   refine (evadot_any wr g1 x e (RC.out.at_ B1.out (by simp)) (HR.out.chg RC.out) HS.out).mono ?_
   rintro r w4 ⟨rfl, hc⟩
   have C4 := Lib.hid (RC.out.trans hc)
   clear hc z
   by_cases hk : evOk e 0
   ·
    rw [decide_eq_true hk]
    have FM : Hid (∀ i, i < 0 + 1 → evOk e i) := Lib.hid (fun i hi => if q : i = 0 then by rw [q]; exact hk else FN.out i (by omega))
    clear hk
    go_wp2
    go_round
    case rel => exact ⟨0 + 1, by omega, by go_num, FM, C4.out⟩
    case measure => simp [RowKit.intOf]
   ·
    rw [decide_eq_false hk]
    obtain rfl : v = 2 := by rw [← HV.out]; exact chkEv_no 0 (by omega) hk
    clear hk HV
    go_wp2
    go_ret
    exact ⟨rfl, C.out.trans C4.out⟩
  by_cases hj1 : j = 1
  ·
   subst hj1
   have z := cell_of bb 1
   simp only [List.getElem?_toArray, List.getElem?_cons_succ, List.getElem?_cons_zero] at z
   clear bb
   go_wp2_with fail
   refine (evapath_any wr g1 x e (RC.out.at_ B1.out (by simp)) (HR.out.chg RC.out) HS.out).mono ?_
   rintro r w4 ⟨rfl, hc⟩
   have C4 := Lib.hid (RC.out.trans hc)
   clear hc z
   by_cases hk : evOk e 1
   ·
    rw [decide_eq_true hk]
    have FM : Hid (∀ i, i < 1 + 1 → evOk e i) := Lib.hid (fun i hi => if q : i = 1 then by rw [q]; exact hk else FN.out i (by omega))
    clear hk
    go_wp2
    go_round
    case rel => exact ⟨1 + 1, by omega, by go_num, FM, C4.out⟩
    case measure => simp [RowKit.intOf]
   ·
    rw [decide_eq_false hk]
    obtain rfl : v = 2 := by rw [← HV.out]; exact chkEv_no 1 (by omega) hk
    clear hk HV
    go_wp2
    go_ret
    exact ⟨rfl, C.out.trans C4.out⟩
  by_cases hj2 : j = 2
  ·
   subst hj2
   have z := cell_of bb 2
   simp only [List.getElem?_toArray, List.getElem?_cons_succ, List.getElem?_cons_zero] at z
   clear bb
   go_wp2_with fail
   refine (evaeff_any wr g1 x e (RC.out.at_ B1.out (by simp)) (HR.out.chg RC.out) HS.out).mono ?_
   rintro r w4 ⟨rfl, hc⟩
   have C4 := Lib.hid (RC.out.trans hc)
   clear hc z
   by_cases hk : evOk e 2
   ·
    rw [decide_eq_true hk]
    have FM : Hid (∀ i, i < 2 + 1 → evOk e i) := Lib.hid (fun i hi => if q : i = 2 then by rw [q]; exact hk else FN.out i (by omega))
    clear hk
    go_wp2
    go_round
    case rel => exact ⟨2 + 1, by omega, by go_num, FM, C4.out⟩
    case measure => simp [RowKit.intOf]
   ·
    rw [decide_eq_false hk]
    obtain rfl : v = 2 := by rw [← HV.out]; exact chkEv_no 2 (by omega) hk
    clear hk HV
    go_wp2
    go_ret
    exact ⟨rfl, C.out.trans C4.out⟩
  by_cases hj3 : j = 3
  ·
   subst hj3
   have z := cell_of bb 3
   simp only [List.getElem?_toArray, List.getElem?_cons_succ, List.getElem?_cons_zero] at z
   clear bb
   go_wp2_with fail
   refine (evapast_any wr g1 x e (RC.out.at_ B1.out (by simp)) (HR.out.chg RC.out) HS.out).mono ?_
   rintro r w4 ⟨rfl, hc⟩
   have C4 := Lib.hid (RC.out.trans hc)
   clear hc z
   by_cases hk : evOk e 3
   ·
    rw [decide_eq_true hk]
    have FM : Hid (∀ i, i < 3 + 1 → evOk e i) := Lib.hid (fun i hi => if q : i = 3 then by rw [q]; exact hk else FN.out i (by omega))
    clear hk
    go_wp2
    go_round
    case rel => exact ⟨3 + 1, by omega, by go_num, FM, C4.out⟩
    case measure => simp [RowKit.intOf]
   ·
    rw [decide_eq_false hk]
    obtain rfl : v = 2 := by rw [← HV.out]; exact chkEv_no 3 (by omega) hk
    clear hk HV
    go_wp2
    go_ret
    exact ⟨rfl, C.out.trans C4.out⟩
  by_cases hj4 : j = 4
  ·
   subst hj4
   have z := cell_of bb 4
   simp only [List.getElem?_toArray, List.getElem?_cons_succ, List.getElem?_cons_zero] at z
   clear bb
   go_wp2_with fail
   refine (evabehind_any wr g1 x e (RC.out.at_ B1.out (by simp)) (HR.out.chg RC.out) HS.out).mono ?_
   rintro r w4 ⟨rfl, hc⟩
   have C4 := Lib.hid (RC.out.trans hc)
   clear hc z
   by_cases hk : evOk e 4
   ·
    rw [decide_eq_true hk]
    have FM : Hid (∀ i, i < 4 + 1 → evOk e i) := Lib.hid (fun i hi => if q : i = 4 then by rw [q]; exact hk else FN.out i (by omega))
    clear hk
    go_wp2
    go_round
    case rel => exact ⟨4 + 1, by omega, by go_num, FM, C4.out⟩
    case measure => simp [RowKit.intOf]
   ·
    rw [decide_eq_false hk]
    obtain rfl : v = 2 := by rw [← HV.out]; exact chkEv_no 4 (by omega) hk
    clear hk HV
    go_wp2
    go_ret
    exact ⟨rfl, C.out.trans C4.out⟩
  ·
   obtain rfl : j = 5 := by omega
   obtain rfl : v = 0 := by rw [← HV.out]; exact chkEv_yes FN.out
   clear HV bb
   go_wp2
   go_ret
   exact ⟨rfl, C.out.trans RC.out⟩
end
section
open Go.RowKit Go.Lib
set_option linter.unusedSimpArgs false
set_option linter.unusedVariables false


def aheadP (a b : EvP) : Bool := hasE b.q a.n a.s && decide (chkEv a = 0) && decide (chkEv b = 0)
end
section
open Go.RowKit Go.Lib
set_option linter.unusedSimpArgs false
set_option linter.unusedVariables false

def ownS (e : EvP) : Sp := (e.n, e.s, e.s)
def allsE (es : List EvP) : List Sp := es.flatMap (fun e => ownS e :: e.q)
def okAll (es : List EvP) : Bool := es.all (fun e => decide (chkEv e = 0))
def pastE (es : List EvP) : Int × List Sp := if okAll es = true then boundP (tidyS (allsE es)) else (2, [])
theorem okAll_iff {es : List EvP} : okAll es = true ↔ ∀ e ∈ es, chkEv e = 0 := by
 unfold okAll
 rw [List.all_eq_true]
 exact ⟨fun h e he => of_decide_eq_true (h e he), fun h e he => decide_eq_true (h e he)⟩
theorem chk_fine {e : EvP} (h : chkEv e = 0) : chkS e.q = 0 ∧ B3 (ownS e) ∧ lastL e.n e.q < e.s := by
 have o : EvOk e := by
  unfold chkEv at h
  split at h
  ·
   assumption
  ·
   exact absurd h (by decide)
 obtain ⟨o0, _, _, o3, o4⟩ := o
 have d : FineD e.n e.s := by
  by_cases f : FineD e.n e.s
  ·
   exact f
  ·
   have := chkD_odd f
   rw [show chkD e.n e.s = 0 from o0] at this
   exact absurd this (by decide)
 have q : chkS e.q = 0 := o3
 refine ⟨q, ?_, ?_⟩
 ·
  unfold FineD at d
  unfold B3 ownS
  simp only
  omega
 ·
  have := o4
  unfold evOk at this
  simp only [q, if_true] at this
  exact this
theorem chk_len {e : EvP} (h : chkEv e = 0) : e.q.length ≤ 4000 := (wf_of_chk (chk_fine h).1).2
theorem alls_B3 {es : List EvP} (h : okAll es = true) : ∀ x ∈ allsE es, B3 x := by
 intro x hx
 obtain ⟨e, he, hm⟩ := List.mem_flatMap.1 hx
 have c := chk_fine (okAll_iff.1 h e he)
 rcases List.mem_cons.1 hm with r | r
 ·
  rw [r]; exact c.2.1
 ·
  exact wf_B3 (wf_of_chk c.1).1 x r
theorem alls_snoc (es : List EvP) (e : EvP) : allsE (es ++ [e]) = allsE es ++ ownS e :: e.q := by simp [allsE]
theorem alls_take {es : List EvP} {k : Nat} {e : EvP} (h : es[k]? = some e) : allsE (es.take (k + 1)) = allsE (es.take k) ++ ownS e :: e.q := by
 rw [List.take_add_one, h]
 exact alls_snoc _ _
theorem okAll_take {es : List EvP} {k : Nat} {e : EvP} (h : es[k]? = some e) : okAll (es.take (k + 1)) = (okAll (es.take k) && decide (chkEv e = 0)) := by
 rw [List.take_add_one, h]
 simp [okAll]
theorem okAll_no {es : List EvP} {k : Nat} {e : EvP} (h : es[k]? = some e) (hc : chkEv e ≠ 0) : okAll es = false := by
 rcases q : okAll es with _ | _
 ·
  rfl
 ·
  exact absurd (okAll_iff.1 q e (List.mem_of_getElem? h)) hc
theorem alls_le (es : List EvP) (j : Nat) : (allsE (es.take j)).length ≤ (allsE es).length := by
 have := congrArg (fun l => (allsE l).length) (List.take_append_drop j es)
 simp only [allsE, List.flatMap_append, List.length_append] at this
 unfold allsE
 omega
theorem past_step {es : List EvP} {e : EvP} (h : okAll es = true) (he : chkEv e = 0) (hl : (allsE es).length + e.q.length + 1 ≤ 4000) (hc : chkS (tidyS (allsE es)) = 0) :
  joinE (tidyS (allsE es)) e.q = (0, tidyS (tidyS (allsE es) ++ e.q)) ∧ (tidyS (tidyS (allsE es) ++ e.q)).length ≤ 4000 ∧
  joinE (tidyS (tidyS (allsE es) ++ e.q)) [(e.n, e.s, e.s)] = (0, tidyS (allsE (es ++ [e]))) ∧ chkS (tidyS (allsE (es ++ [e]))) = 0 ∧ (allsE (es ++ [e])).length = (allsE es).length + e.q.length + 1 := by
 have c := chk_fine he
 have tl := tidy_len (allsE es)
 have j1 := join_ok hc c.1 (by omega)
 have hd : chkS [(e.n, e.s, e.s)] = 0 := by
  refine chk_of_wf ⟨⟨?_, by simp⟩, ?_⟩ (by simp)
  ·
   intro x hx
   rw [List.mem_singleton.1 hx]
   exact c.2.1.ok
  ·
   intro x hx
   rw [List.mem_singleton.1 hx]
   have := c.2.1
   unfold B3 ownS at this
   simp only at this ⊢
   omega
 have j2 := join_ok j1.2.1 hd (by simp only [List.length_cons, List.length_nil]; omega)
 have ok2 : okAll (es ++ [e]) = true := okAll_iff.2 (fun x hx => by
  rcases List.mem_append.1 hx with q | q
  ·
   exact okAll_iff.1 h x q
  ·
   rw [List.mem_singleton.1 q]; exact he)
 have t := tidy_norm (l := allsE (es ++ [e])) (fun x hx => (alls_B3 ok2 x hx).ok)
 have eq : tidyS (tidyS (tidyS (allsE es) ++ e.q) ++ [(e.n, e.s, e.s)]) = tidyS (allsE (es ++ [e])) := by
  refine norm_ext (wf_of_chk j2.2.1).1.1 t.1 (fun n s => ?_)
  rw [j2.2.2.2, j1.2.2.2, t.2, alls_snoc, mem_append, mem_cons, (tidy_norm (fun x hx => (alls_B3 h x hx).ok)).2]
  rw [mem_cons (x := ownS e)]
  unfold ownS
  constructor
  ·
   rintro ((a | a) | a | a)
   ·
    exact .inl a
   ·
    exact .inr (.inr a)
   ·
    exact .inr (.inl a)
   ·
    exact absurd a mem_nil
  ·
   rintro (a | a | a)
   ·
    exact .inl (.inl a)
   ·
    exact .inr (.inl a)
   ·
    exact .inl (.inr a)
 refine ⟨j1.1, by omega, by rw [j2.1, eq], by rw [← eq]; exact j2.2.1, ?_⟩
 rw [alls_snoc, List.length_append, List.length_cons]
 omega

def OkTwo (a b : EvP) : Prop := ¬ (a.n = b.n ∧ a.s = b.s) ∧ (aheadP a b = true → withinE a.q b.q = true) ∧ (aheadP b a = true → withinE b.q a.q = true)
instance (a b : EvP) : Decidable (OkTwo a b) := by unfold OkTwo; exact inferInstance
theorem OkTwo.symm {a b : EvP} (h : OkTwo a b) : OkTwo b a := ⟨fun q => h.1 ⟨q.1.symm, q.2.symm⟩, h.2.2, h.2.1⟩
def closedE (es : List EvP) : Bool := okAll es && decide (es.Pairwise OkTwo)
def OneWay (a b : EvP) : Prop := ¬ (a.n = b.n ∧ a.s = b.s) ∧ (aheadP a b = true → withinE a.q b.q = true)
theorem pair_at {es : List EvP} : es.Pairwise OkTwo ↔ ∀ (i k : Nat) (a b : EvP), es[i]? = some a → es[k]? = some b → k ≠ i → OneWay a b := by
 rw [List.pairwise_iff_getElem]
 constructor
 ·
  intro h i k a b ha hb hne
  obtain ⟨hi, ea⟩ := List.getElem?_eq_some_iff.1 ha
  obtain ⟨hk, eb⟩ := List.getElem?_eq_some_iff.1 hb
  subst ea eb
  by_cases q : i < k
  ·
   have := h i k hi hk q
   exact ⟨this.1, this.2.1⟩
  ·
   have := (h k i hk hi (by omega)).symm
   exact ⟨this.1, this.2.1⟩
 ·
  intro h i k hi hk q
  have a := h i k _ _ (List.getElem?_eq_getElem hi) (List.getElem?_eq_getElem hk) (by omega)
  have b := h k i _ _ (List.getElem?_eq_getElem hk) (List.getElem?_eq_getElem hi) (by omega)
  exact ⟨a.1, a.2, b.2⟩
theorem closed_no_chk {es : List EvP} {k : Nat} {e : EvP} (h : es[k]? = some e) (hc : chkEv e ≠ 0) : closedE es = false := by
 unfold closedE
 rw [okAll_no h hc]
 rfl
theorem closed_no_two {es : List EvP} {i k : Nat} {a b : EvP} (ha : es[i]? = some a) (hb : es[k]? = some b) (hne : k ≠ i) (hc : ¬ OneWay a b) : closedE es = false := by
 unfold closedE
 rw [decide_eq_false (fun q => hc (pair_at.1 q i k a b ha hb hne)), Bool.and_false]
theorem closed_yes {es : List EvP} (h : okAll es = true) (h2 : ∀ (i k : Nat) (a b : EvP), es[i]? = some a → es[k]? = some b → k ≠ i → OneWay a b) : closedE es = true := by
 unfold closedE
 rw [h, decide_eq_true (pair_at.2 h2)]
 rfl
theorem closed_perm {es fs : List EvP} (h : es.Perm fs) : closedE es = closedE fs := by
 have h1 : okAll es = okAll fs := by
  have : okAll es = true ↔ okAll fs = true := by
   rw [okAll_iff, okAll_iff]
   exact ⟨fun q e he => q e (h.mem_iff.2 he), fun q e he => q e (h.mem_iff.1 he)⟩
  rcases a : okAll es with _ | _ <;> rcases b : okAll fs with _ | _ <;> simp_all
 have h2 : es.Pairwise OkTwo ↔ fs.Pairwise OkTwo := h.pairwise_iff (fun {a b} q => q.symm)
 unfold closedE
 rw [h1, decide_eq_decide.2 h2]
def bringsE (m : List EvP) (e : EvP) : Bool := e.q.all (fun s => m.all (fun x => !(decide (InS s x.n x.s)) || withinE x.q e.q))
theorem brings_iff {m : List EvP} {e : EvP} : bringsE m e = true ↔ ∀ x ∈ m, Mem e.q x.n x.s → withinE x.q e.q = true := by
 unfold bringsE
 rw [List.all_eq_true]
 constructor
 ·
  rintro h x hx ⟨s, hs, hi⟩
  have := List.all_eq_true.1 (h s hs) x hx
  rw [decide_eq_true hi] at this
  simpa using this
 ·
  intro h s hs
  rw [List.all_eq_true]
  intro x hx
  by_cases hi : InS s x.n x.s
  ·
   rw [h x hx ⟨s, hs, hi⟩, Bool.or_true]
  ·
   rw [decide_eq_false hi]
   rfl
theorem own_out {e : EvP} (h : chkEv e = 0) : ¬ Mem e.q e.n e.s := by
 intro q
 have c := chk_fine h
 have := last_ge (wf_of_chk c.1).1 q
 omega
theorem closed_brings {m : List EvP} (h : okAll m = true) (hd : m.Pairwise (fun a b => ¬ (a.n = b.n ∧ a.s = b.s))) : closedE m = m.all (fun e => bringsE m e) := by
 have ok := okAll_iff.1 h
 have key : closedE m = true ↔ m.all (fun e => bringsE m e) = true := by
  unfold closedE
  rw [h, Bool.true_and, decide_eq_true_iff, List.all_eq_true]
  constructor
  ·
   intro hp e he
   refine brings_iff.2 (fun x hx hm => ?_)
   obtain ⟨i, hi⟩ := List.getElem?_of_mem hx
   obtain ⟨k, hk⟩ := List.getElem?_of_mem he
   by_cases q : k = i
   ·
    subst q
    rw [hi] at hk
    cases hk
    exact absurd hm (own_out (ok _ hx))
   ·
    refine (pair_at.1 hp i k x e hi hk q).2 ?_
    unfold aheadP
    rw [has_iff (chk_fine (ok e he)).1, decide_eq_true hm, decide_eq_true (ok x hx), decide_eq_true (ok e he)]
    rfl
  ·
   intro hb
   have two : ∀ a ∈ m, ∀ b ∈ m, aheadP a b = true → withinE a.q b.q = true := fun a ha b hb' q => by
    unfold aheadP at q
    simp only [Bool.and_eq_true, decide_eq_true_eq] at q
    rw [has_iff (chk_fine (ok b hb')).1] at q
    exact brings_iff.1 (hb b hb') a ha (of_decide_eq_true q.1.1)
   refine hd.imp_of_mem (fun {a b} ha hb' q => ⟨q, two a ha b hb', two b hb' a ha⟩)
 rcases a : closedE m with _ | _ <;> rcases b : m.all (fun e => bringsE m e) with _ | _
 ·
  rfl
 ·
  rw [key.2 b] at a; exact absurd a (by decide)
 ·
  rw [key.1 a] at b; exact absurd b (by decide)
 ·
  rfl
theorem perm_zip {α β : Type} {m xs : List α} (h : m.Perm xs) : ∀ es : List β, es.length = xs.length → ∃ es' : List β, es'.length = m.length ∧ (m.zip es').Perm (xs.zip es) := by
 induction h with
 | nil => intro es _; exact ⟨[], rfl, by simp⟩
 | cons x h ih =>
  intro es he
  match es, he with
  | e :: es, he =>
   obtain ⟨f, hf, hp⟩ := ih es (by simpa using he)
   exact ⟨e :: f, by simp [hf], by simpa using hp.cons (x, e)⟩
 | swap x y l =>
  intro es he
  match es, he with
  | a :: b :: es, he => exact ⟨b :: a :: es, by simp at he ⊢; omega, by simpa using List.Perm.swap (x, a) (y, b) (l.zip es)⟩
 | trans h1 h2 i1 i2 =>
  intro es he
  obtain ⟨f, hf, hp⟩ := i2 es he
  obtain ⟨g, hg, hq⟩ := i1 f hf
  exact ⟨g, hg, hq.trans hp⟩
end
section
open Go.RowKit Go.Lib
set_option linter.unusedSimpArgs false
set_option linter.unusedVariables false


def sameP (a b : EvP) : Bool := decide (a.n = b.n ∧ a.s = b.s) && decide (a.p = b.p) && (decide (a.k = b.k ∧ a.m = b.m) && a.b == b.b) && (a.q == b.q)
def sameX (k m : Int) (xs : List UInt8) (k' m' : Int) (ys : List UInt8) : Bool := decide (k = k' ∧ m = m') && (xs == ys)
theorem strOf_ne {a b : List UInt8} (h : a ≠ b) : (strOf a == strOf b) = false := by
 cases q : strOf a == strOf b with
 | false => rfl
 | true =>
  have q2 : (a.toArray == b.toArray) = true := q
  exact absurd (by simpa using q2) h
theorem strOf_ne2 {a b : List UInt8} (h : a ≠ b) : ¬ strOf a = strOf b := fun q => h (strOf_inj q)

set_option maxRecDepth 100000 in
set_option maxHeartbeats 4000000 in
theorem sameeff_0 (w : World) (k m k' m' : Int) (A B : Option Addr) (n c n2 c2 : Nat) (xs ys : List UInt8) (h : Bs w A n xs) (h2 : Bs w B n2 ys) (hne : k ≠ k') :
  Calls Tryz.prog 73 #[.agg #[.int .i64 k, .int .i64 m, .slice A n c], .agg #[.int .i64 k', .int .i64 m', .slice B n2 c2]] w fun r w' => r = .returned (.bool false) ∧ Chg [] w w' := by
 obtain ⟨w2, hw, hc, b0, b1⟩ := news2 w (.cells #[.int .i64 k, .int .i64 m, .slice A n c] 26) (.cells #[.int .i64 k', .int .i64 m', .slice B n2 c2] 26)
 have W2 := Lib.hid hw
 have C := Lib.hid hc
 have H := Lib.hid (h.chg hc (by simp))
 have H2 := Lib.hid (h2.chg hc (by simp))
 have e1 : (k == k') = false := beq_eq_false_iff_ne.2 hne
 clear hne
 clear hw hc h h2
 go_enter Tryz.func73, Tryz.ntmps73
 go_upto_region 1 with fail
 rw [← W2.out]
 generalize w.heap.size + 1 = g1 at *
 generalize w.heap.size = g0 at *
 have z0 := cell_of b0 0
 have z1 := cell_of b0 1
 have z2 := cell_of b0 2
 have y0 := cell_of b1 0
 have y1 := cell_of b1 1
 have y2 := cell_of b1 2
 simp only [List.getElem?_toArray, List.getElem?_cons_succ, List.getElem?_cons_zero] at z0 z1 z2 y0 y1 y2
 clear b0 b1
 go_wp2
 go_ret
 exact ⟨rfl, C.out⟩
set_option maxRecDepth 100000 in
set_option maxHeartbeats 4000000 in
theorem sameeff_1 (w : World) (k m m' : Int) (A B : Option Addr) (n c n2 c2 : Nat) (xs ys : List UInt8) (h : Bs w A n xs) (h2 : Bs w B n2 ys) (hne : m ≠ m') :
  Calls Tryz.prog 73 #[.agg #[.int .i64 k, .int .i64 m, .slice A n c], .agg #[.int .i64 k, .int .i64 m', .slice B n2 c2]] w fun r w' => r = .returned (.bool false) ∧ Chg [] w w' := by
 obtain ⟨w2, hw, hc, b0, b1⟩ := news2 w (.cells #[.int .i64 k, .int .i64 m, .slice A n c] 26) (.cells #[.int .i64 k, .int .i64 m', .slice B n2 c2] 26)
 have W2 := Lib.hid hw
 have C := Lib.hid hc
 have H := Lib.hid (h.chg hc (by simp))
 have H2 := Lib.hid (h2.chg hc (by simp))
 have e2 : (m == m') = false := beq_eq_false_iff_ne.2 hne
 clear hne
 clear hw hc h h2
 go_enter Tryz.func73, Tryz.ntmps73
 go_upto_region 1 with fail
 rw [← W2.out]
 generalize w.heap.size + 1 = g1 at *
 generalize w.heap.size = g0 at *
 have z0 := cell_of b0 0
 have z1 := cell_of b0 1
 have z2 := cell_of b0 2
 have y0 := cell_of b1 0
 have y1 := cell_of b1 1
 have y2 := cell_of b1 2
 simp only [List.getElem?_toArray, List.getElem?_cons_succ, List.getElem?_cons_zero] at z0 z1 z2 y0 y1 y2
 clear b0 b1
 go_wp2
 go_ret
 exact ⟨rfl, C.out⟩
set_option maxRecDepth 100000 in
set_option maxHeartbeats 4000000 in
theorem sameeff_2 (w : World) (k m : Int) (A B : Option Addr) (n c n2 c2 : Nat) (xs ys : List UInt8) (h : Bs w A n xs) (h2 : Bs w B n2 ys) :
  Calls Tryz.prog 73 #[.agg #[.int .i64 k, .int .i64 m, .slice A n c], .agg #[.int .i64 k, .int .i64 m, .slice B n2 c2]] w fun r w' => r = .returned (.bool (xs == ys)) ∧ Chg [] w w' := by
 obtain ⟨w2, hw, hc, b0, b1⟩ := news2 w (.cells #[.int .i64 k, .int .i64 m, .slice A n c] 26) (.cells #[.int .i64 k, .int .i64 m, .slice B n2 c2] 26)
 have W2 := Lib.hid hw
 have C := Lib.hid hc
 have H := Lib.hid (h.chg hc (by simp))
 have H2 := Lib.hid (h2.chg hc (by simp))
 generalize hv : (xs == ys) = v
 have HV := Lib.hid hv
 clear hv
 clear hw hc h h2
 go_enter Tryz.func73, Tryz.ntmps73
 go_upto_region 1 with fail
 rw [← W2.out]
 generalize w.heap.size + 1 = g1 at *
 generalize w.heap.size = g0 at *
 have z0 := cell_of b0 0
 have z1 := cell_of b0 1
 have z2 := cell_of b0 2
 have y0 := cell_of b1 0
 have y1 := cell_of b1 1
 have y2 := cell_of b1 2
 simp only [List.getElem?_toArray, List.getElem?_cons_succ, List.getElem?_cons_zero] at z0 z1 z2 y0 y1 y2
 clear b0 b1
 go_wp2_with fail
 clear z0 z1 z2 y0 y1 y2
 refine (same_any w2 A B n n2 c c2 xs ys H.out H2.out).mono ?_
 rintro r w3 ⟨rfl, rfl⟩
 rw [HV.out]
 rcases v with _ | _
 all_goals (clear HV; go_wp2; go_ret; exact ⟨rfl, C.out⟩)
theorem sameeff_any (w : World) (k m k' m' : Int) (A B : Option Addr) (n c n2 c2 : Nat) (xs ys : List UInt8) (h : Bs w A n xs) (h2 : Bs w B n2 ys) :
  Calls Tryz.prog 73 #[.agg #[.int .i64 k, .int .i64 m, .slice A n c], .agg #[.int .i64 k', .int .i64 m', .slice B n2 c2]] w fun r w' => r = .returned (.bool (sameX k m xs k' m' ys)) ∧ Chg [] w w' := by
 unfold sameX
 by_cases hk : k = k'
 ·
  subst hk
  by_cases hm : m = m'
  ·
   subst hm
   have q := sameeff_2 w k m A B n c n2 c2 xs ys h h2
   simpa using q
  ·
   have q := sameeff_1 w k m m' A B n c n2 c2 xs ys h h2 hm
   simpa [hm] using q
 ·
  have q := sameeff_0 w k m k' m' A B n c n2 c2 xs ys h h2 hk
  simpa [hk] using q

set_option maxRecDepth 100000 in
set_option maxHeartbeats 8000000 in
theorem sameev_0 (w : World) (un us : Int) (up : List UInt8) (uk um : Int) (uA : Option Addr) (ul uc : Nat) (uB : Option Addr) (ubl ubc : Nat) (ub : List UInt8) (uq : List (Int × Int × Int)) (vn vs : Int) (vp : List UInt8) (vk vm : Int) (vA : Option Addr) (vl vc : Nat) (vB : Option Addr) (vbl vbc : Nat) (vb : List UInt8) (vq : List (Int × Int × Int)) (ha : Bs w uA ul ub) (hq : RdK spanTy w uB ubl uq) (hb : Bs w vA vl vb) (hr : RdK spanTy w vB vbl vq) (hn : ubl ≤ 140737488351232 ∧ vbl ≤ 140737488351232) (hne : un ≠ vn) :
  Calls Tryz.prog 23 #[.agg #[.int .i64 un, .int .i64 us, .string (strOf up), .int .i64 uk, .int .i64 um, .slice uA ul uc, .slice uB ubl ubc], .agg #[.int .i64 vn, .int .i64 vs, .string (strOf vp), .int .i64 vk, .int .i64 vm, .slice vA vl vc, .slice vB vbl vbc]] w fun r w' => r = .returned (.bool false) ∧ Chg [] w w' := by
 obtain ⟨w2, hw, hc, b0, b1⟩ := news2 w (.cells #[.int .i64 un, .int .i64 us, .string (strOf up), .int .i64 uk, .int .i64 um, .slice uA ul uc, .slice uB ubl ubc] 29) (.cells #[.int .i64 vn, .int .i64 vs, .string (strOf vp), .int .i64 vk, .int .i64 vm, .slice vA vl vc, .slice vB vbl vbc] 29)
 have W2 := Lib.hid hw
 have C := Lib.hid hc
 have HA := Lib.hid (ha.chg hc (by simp))
 have HB := Lib.hid (hb.chg hc (by simp))
 have HQ := Lib.hid (hq.chg hc (by simp))
 have HR := Lib.hid (hr.chg hc (by simp))
 have HN := Lib.hid hn
 have e0 : (un == vn) = false := beq_eq_false_iff_ne.2 hne
 have hN := Lib.hid hne
 clear hne
 clear hw hc ha hq hb hr hn
 go_enter Tryz.func23, Tryz.ntmps23
 go_upto_region 1 with fail
 rw [← W2.out]
 generalize w.heap.size + 1 = g1 at *
 generalize w.heap.size = g0 at *
 have z0 := cell_of b0 0
 have z1 := cell_of b0 1
 have z2 := cell_of b0 2
 have z3 := cell_of b0 3
 have z4 := cell_of b0 4
 have z5 := cell_of b0 5
 have z6 := cell_of b0 6
 have y0 := cell_of b1 0
 have y1 := cell_of b1 1
 have y2 := cell_of b1 2
 have y3 := cell_of b1 3
 have y4 := cell_of b1 4
 have y5 := cell_of b1 5
 have y6 := cell_of b1 6
 simp only [List.getElem?_toArray, List.getElem?_cons_succ, List.getElem?_cons_zero] at z0 z1 z2 z3 z4 z5 z6 y0 y1 y2 y3 y4 y5 y6
 clear b0 b1
 go_wp2
 go_ret
 exact ⟨rfl, C.out⟩
set_option maxRecDepth 100000 in
set_option maxHeartbeats 8000000 in
theorem sameev_1 (w : World) (un us : Int) (up : List UInt8) (uk um : Int) (uA : Option Addr) (ul uc : Nat) (uB : Option Addr) (ubl ubc : Nat) (ub : List UInt8) (uq : List (Int × Int × Int)) (vs : Int) (vp : List UInt8) (vk vm : Int) (vA : Option Addr) (vl vc : Nat) (vB : Option Addr) (vbl vbc : Nat) (vb : List UInt8) (vq : List (Int × Int × Int)) (ha : Bs w uA ul ub) (hq : RdK spanTy w uB ubl uq) (hb : Bs w vA vl vb) (hr : RdK spanTy w vB vbl vq) (hn : ubl ≤ 140737488351232 ∧ vbl ≤ 140737488351232) (hne : us ≠ vs) :
  Calls Tryz.prog 23 #[.agg #[.int .i64 un, .int .i64 us, .string (strOf up), .int .i64 uk, .int .i64 um, .slice uA ul uc, .slice uB ubl ubc], .agg #[.int .i64 un, .int .i64 vs, .string (strOf vp), .int .i64 vk, .int .i64 vm, .slice vA vl vc, .slice vB vbl vbc]] w fun r w' => r = .returned (.bool false) ∧ Chg [] w w' := by
 obtain ⟨w2, hw, hc, b0, b1⟩ := news2 w (.cells #[.int .i64 un, .int .i64 us, .string (strOf up), .int .i64 uk, .int .i64 um, .slice uA ul uc, .slice uB ubl ubc] 29) (.cells #[.int .i64 un, .int .i64 vs, .string (strOf vp), .int .i64 vk, .int .i64 vm, .slice vA vl vc, .slice vB vbl vbc] 29)
 have W2 := Lib.hid hw
 have C := Lib.hid hc
 have HA := Lib.hid (ha.chg hc (by simp))
 have HB := Lib.hid (hb.chg hc (by simp))
 have HQ := Lib.hid (hq.chg hc (by simp))
 have HR := Lib.hid (hr.chg hc (by simp))
 have HN := Lib.hid hn
 have e0 : (us == vs) = false := beq_eq_false_iff_ne.2 hne
 have hN := Lib.hid hne
 clear hne
 clear hw hc ha hq hb hr hn
 go_enter Tryz.func23, Tryz.ntmps23
 go_upto_region 1 with fail
 rw [← W2.out]
 generalize w.heap.size + 1 = g1 at *
 generalize w.heap.size = g0 at *
 have z0 := cell_of b0 0
 have z1 := cell_of b0 1
 have z2 := cell_of b0 2
 have z3 := cell_of b0 3
 have z4 := cell_of b0 4
 have z5 := cell_of b0 5
 have z6 := cell_of b0 6
 have y0 := cell_of b1 0
 have y1 := cell_of b1 1
 have y2 := cell_of b1 2
 have y3 := cell_of b1 3
 have y4 := cell_of b1 4
 have y5 := cell_of b1 5
 have y6 := cell_of b1 6
 simp only [List.getElem?_toArray, List.getElem?_cons_succ, List.getElem?_cons_zero] at z0 z1 z2 z3 z4 z5 z6 y0 y1 y2 y3 y4 y5 y6
 clear b0 b1
 go_wp2
 go_ret
 exact ⟨rfl, C.out⟩
set_option maxRecDepth 100000 in
set_option maxHeartbeats 8000000 in
theorem sameev_2 (w : World) (un us : Int) (up : List UInt8) (uk um : Int) (uA : Option Addr) (ul uc : Nat) (uB : Option Addr) (ubl ubc : Nat) (ub : List UInt8) (uq : List (Int × Int × Int)) (vp : List UInt8) (vk vm : Int) (vA : Option Addr) (vl vc : Nat) (vB : Option Addr) (vbl vbc : Nat) (vb : List UInt8) (vq : List (Int × Int × Int)) (ha : Bs w uA ul ub) (hq : RdK spanTy w uB ubl uq) (hb : Bs w vA vl vb) (hr : RdK spanTy w vB vbl vq) (hn : ubl ≤ 140737488351232 ∧ vbl ≤ 140737488351232) (hne : up ≠ vp) :
  Calls Tryz.prog 23 #[.agg #[.int .i64 un, .int .i64 us, .string (strOf up), .int .i64 uk, .int .i64 um, .slice uA ul uc, .slice uB ubl ubc], .agg #[.int .i64 un, .int .i64 us, .string (strOf vp), .int .i64 vk, .int .i64 vm, .slice vA vl vc, .slice vB vbl vbc]] w fun r w' => r = .returned (.bool false) ∧ Chg [] w w' := by
 obtain ⟨w2, hw, hc, b0, b1⟩ := news2 w (.cells #[.int .i64 un, .int .i64 us, .string (strOf up), .int .i64 uk, .int .i64 um, .slice uA ul uc, .slice uB ubl ubc] 29) (.cells #[.int .i64 un, .int .i64 us, .string (strOf vp), .int .i64 vk, .int .i64 vm, .slice vA vl vc, .slice vB vbl vbc] 29)
 have W2 := Lib.hid hw
 have C := Lib.hid hc
 have HA := Lib.hid (ha.chg hc (by simp))
 have HB := Lib.hid (hb.chg hc (by simp))
 have HQ := Lib.hid (hq.chg hc (by simp))
 have HR := Lib.hid (hr.chg hc (by simp))
 have HN := Lib.hid hn
 have e0 := strOf_ne hne
 have e1 := strOf_ne2 hne
 have e2 : (up == vp) = false := beq_eq_false_iff_ne.2 hne
 clear hw hc ha hq hb hr hn
 go_enter Tryz.func23, Tryz.ntmps23
 go_upto_region 1 with fail
 rw [← W2.out]
 generalize w.heap.size + 1 = g1 at *
 generalize w.heap.size = g0 at *
 have z0 := cell_of b0 0
 have z1 := cell_of b0 1
 have z2 := cell_of b0 2
 have z3 := cell_of b0 3
 have z4 := cell_of b0 4
 have z5 := cell_of b0 5
 have z6 := cell_of b0 6
 have y0 := cell_of b1 0
 have y1 := cell_of b1 1
 have y2 := cell_of b1 2
 have y3 := cell_of b1 3
 have y4 := cell_of b1 4
 have y5 := cell_of b1 5
 have y6 := cell_of b1 6
 simp only [List.getElem?_toArray, List.getElem?_cons_succ, List.getElem?_cons_zero] at z0 z1 z2 z3 z4 z5 z6 y0 y1 y2 y3 y4 y5 y6
 clear b0 b1
 go_wp2
 go_ret
 exact ⟨rfl, C.out⟩
set_option maxRecDepth 100000 in
set_option maxHeartbeats 8000000 in
theorem sameev_3 (w : World) (un us : Int) (up : List UInt8) (uk um : Int) (uA : Option Addr) (ul uc : Nat) (uB : Option Addr) (ubl ubc : Nat) (ub : List UInt8) (uq : List (Int × Int × Int)) (vk vm : Int) (vA : Option Addr) (vl vc : Nat) (vB : Option Addr) (vbl vbc : Nat) (vb : List UInt8) (vq : List (Int × Int × Int)) (ha : Bs w uA ul ub) (hq : RdK spanTy w uB ubl uq) (hb : Bs w vA vl vb) (hr : RdK spanTy w vB vbl vq) (hn : ubl ≤ 140737488351232 ∧ vbl ≤ 140737488351232) :
  Calls Tryz.prog 23 #[.agg #[.int .i64 un, .int .i64 us, .string (strOf up), .int .i64 uk, .int .i64 um, .slice uA ul uc, .slice uB ubl ubc], .agg #[.int .i64 un, .int .i64 us, .string (strOf up), .int .i64 vk, .int .i64 vm, .slice vA vl vc, .slice vB vbl vbc]] w fun r w' => r = .returned (.bool (sameX uk um ub vk vm vb && (uq == vq))) ∧ Chg [] w w' := by
 obtain ⟨w2, hw, hc, b0, b1⟩ := news2 w (.cells #[.int .i64 un, .int .i64 us, .string (strOf up), .int .i64 uk, .int .i64 um, .slice uA ul uc, .slice uB ubl ubc] 29) (.cells #[.int .i64 un, .int .i64 us, .string (strOf up), .int .i64 vk, .int .i64 vm, .slice vA vl vc, .slice vB vbl vbc] 29)
 have W2 := Lib.hid hw
 have C := Lib.hid hc
 have HA := Lib.hid (ha.chg hc (by simp))
 have HB := Lib.hid (hb.chg hc (by simp))
 have HQ := Lib.hid (hq.chg hc (by simp))
 have HR := Lib.hid (hr.chg hc (by simp))
 have HN := Lib.hid hn
 generalize hv : sameX uk um ub vk vm vb = v
 have HV := Lib.hid hv
 clear hv
 generalize hu : (uq == vq) = u
 have HU := Lib.hid hu
 clear hu
 clear hw hc ha hq hb hr hn
 go_enter Tryz.func23, Tryz.ntmps23
 go_upto_region 1 with fail
 rw [← W2.out]
 generalize w.heap.size + 1 = g1 at *
 generalize w.heap.size = g0 at *
 have z0 := cell_of b0 0
 have z1 := cell_of b0 1
 have z2 := cell_of b0 2
 have z3 := cell_of b0 3
 have z4 := cell_of b0 4
 have z5 := cell_of b0 5
 have z6 := cell_of b0 6
 have y0 := cell_of b1 0
 have y1 := cell_of b1 1
 have y2 := cell_of b1 2
 have y3 := cell_of b1 3
 have y4 := cell_of b1 4
 have y5 := cell_of b1 5
 have y6 := cell_of b1 6
 simp only [List.getElem?_toArray, List.getElem?_cons_succ, List.getElem?_cons_zero] at z0 z1 z2 z3 z4 z5 z6 y0 y1 y2 y3 y4 y5 y6
 clear b0 b1
 go_wp2_with fail
 refine (sameeff_any _ uk um vk vm uA vA ul uc vl vc ub vb HA.out HB.out).mono ?_
 rintro r w3 ⟨rfl, h3⟩
 rw [HV.out]
 have cz6 := h3.cell z6 (by simp)
 have cy6 := h3.cell y6 (by simp)
 replace C := Lib.hid (C.out.trans h3)
 replace HQ := Lib.hid (HQ.out.chg h3 (by simp))
 replace HR := Lib.hid (HR.out.chg h3 (by simp))
 clear h3 HV z0 z1 z2 z3 z4 z5 z6 y0 y1 y2 y3 y4 y5 y6
 rcases v with _ | _
 ·
  clear cz6 cy6
  go_wp2
  go_ret
  exact ⟨rfl, C.out⟩
 go_wp2_with fail
 refine (samespan_any _ uB vB ubl vbl ubc vbc uq vq HQ.out HR.out HN.out.1 HN.out.2).mono ?_
 rintro r w4 ⟨rfl, h4⟩
 rw [HU.out]
 replace C := Lib.hid (C.out.trans h4)
 clear h4 cz6 cy6 HU
 rcases u with _ | _
 all_goals (go_wp2; go_ret; exact ⟨rfl, C.out⟩)
theorem sameev_raw (w : World) (un us : Int) (up : List UInt8) (uk um : Int) (uA : Option Addr) (ul uc : Nat) (uB : Option Addr) (ubl ubc : Nat) (ub : List UInt8) (uq : List (Int × Int × Int)) (vn vs : Int) (vp : List UInt8) (vk vm : Int) (vA : Option Addr) (vl vc : Nat) (vB : Option Addr) (vbl vbc : Nat) (vb : List UInt8) (vq : List (Int × Int × Int)) (ha : Bs w uA ul ub) (hq : RdK spanTy w uB ubl uq) (hb : Bs w vA vl vb) (hr : RdK spanTy w vB vbl vq) (hn : ubl ≤ 140737488351232 ∧ vbl ≤ 140737488351232) :
  Calls Tryz.prog 23 #[.agg #[.int .i64 un, .int .i64 us, .string (strOf up), .int .i64 uk, .int .i64 um, .slice uA ul uc, .slice uB ubl ubc], .agg #[.int .i64 vn, .int .i64 vs, .string (strOf vp), .int .i64 vk, .int .i64 vm, .slice vA vl vc, .slice vB vbl vbc]] w fun r w' => r = .returned (.bool (sameP ⟨un, us, up, uk, um, ub, uq⟩ ⟨vn, vs, vp, vk, vm, vb, vq⟩)) ∧ Chg [] w w' := by
 unfold sameP
 by_cases h1 : un = vn
 ·
  subst h1
  by_cases h2 : us = vs
  ·
   subst h2
   by_cases h3 : up = vp
   ·
    subst h3
    have q := sameev_3 w un us up uk um uA ul uc uB ubl ubc ub uq vk vm vA vl vc vB vbl vbc vb vq ha hq hb hr hn
    unfold sameX at q
    simpa using q
   ·
    have q := sameev_2 w un us up uk um uA ul uc uB ubl ubc ub uq vp vk vm vA vl vc vB vbl vbc vb vq ha hq hb hr hn h3
    simpa [h3] using q
  ·
   have q := sameev_1 w un us up uk um uA ul uc uB ubl ubc ub uq vs vp vk vm vA vl vc vB vbl vbc vb vq ha hq hb hr hn h2
   simpa [h2] using q
 ·
  have q := sameev_0 w un us up uk um uA ul uc uB ubl ubc ub uq vn vs vp vk vm vA vl vc vB vbl vbc vb vq ha hq hb hr hn h1
  simpa [h1] using q
theorem sameev_any (w : World) (x y : EvT) (e f : EvP) (hx : EvR w x e) (hy : EvR w y f) (hn : e.q.length ≤ 140737488351232 ∧ f.q.length ≤ 140737488351232) :
  Calls Tryz.prog 23 #[.agg #[.int .i64 x.n, .int .i64 x.s, .string x.p, .int .i64 x.k, .int .i64 x.m, .slice x.A x.l x.c, .slice x.B x.bl x.bc], .agg #[.int .i64 y.n, .int .i64 y.s, .string y.p, .int .i64 y.k, .int .i64 y.m, .slice y.A y.l y.c, .slice y.B y.bl y.bc]] w fun r w' => r = .returned (.bool (sameP e f)) ∧ Chg [] w w' := by
 have q := sameev_raw w e.n e.s e.p e.k e.m x.A x.l x.c x.B x.bl x.bc e.b e.q f.n f.s f.p f.k f.m y.A y.l y.c y.B y.bl y.bc f.b f.q hx.A hx.B hy.A hy.B (by rw [hx.bl, hy.bl]; exact hn)
 have en := hx.n
 have es := hx.s
 have ep := hx.p
 have ek := hx.k
 have em := hx.m
 have fn := hy.n
 have fs := hy.s
 have fp := hy.p
 have fk := hy.k
 have fm := hy.m
 rw [en, es, ep, ek, em, fn, fs, fp, fk, fm]
 exact q
end
end Go.Proofs.YtgbidlhgmeglmaaGreatDoor
