/- A range over a function whose iterator writes cells of its own (blocks Si), with a body that writes cells of its caller's (blocks T) and may leave: no program here. strings.SplitSeq at the byte 47: what its iterator hands over. path.isPart: which texts are parts. path.Check: which texts are paths. Package effect: kinds, Check. past.stands, past.apart. past.Check. Sets of dots as lists of spans: plain functions. No function of the program is named here. -/
import Derived.Test.YtehmchdhlhchjaaGreatDoorZepb
import Derived.Test.YtehmchdhlhchjaaGreatDoorShelf
import Derived.Shelf.Strings.Search3
import Derived.Deep.QuietTactic
import Derived.BigQuiet
import Derived.Shelf.GgClosure.StringsRunes
import Derived.Scope
import Derived.Test.YtehmchdhlhchjaaGreatDoorZepa
import Derived.Deep.Cut
import Derived.Deep.RegionHeld3
set_option linter.unusedSimpArgs false
set_option linter.unusedVariables false
set_option maxHeartbeats 32000000
namespace Go.Proofs.YtehmchdhlhchjaaGreatDoor
section
open Go.RowKit

structure Kpt (n : Nat) (T : List Nat) (w w' : World) : Prop where
 os : w'.os = w.os
 tape : w'.tape = w.tape
 output : w'.output = w.output
 size : w.heap.size ≤ w'.heap.size
 block : ∀ k, k < n → k ∉ T → w'.heap[k]? = w.heap[k]?
theorem Kpt.refl (n : Nat) (T : List Nat) (w : World) : Kpt n T w w := ⟨rfl, rfl, rfl, Nat.le_refl _, fun _ _ _ => rfl⟩
theorem Kpt.trans {n : Nat} {T : List Nat} {a b c : World} (h : Kpt n T a b) (k : Kpt n T b c) : Kpt n T a c :=
 ⟨k.os.trans h.os, k.tape.trans h.tape, k.output.trans h.output, Nat.le_trans h.size k.size, fun i hi hn => (k.block i hi hn).trans (h.block i hi hn)⟩
theorem Kpt.of_chg {n : Nat} {T : List Nat} {a b : World} (h : Chg T a b) (hn : n ≤ a.heap.size) : Kpt n T a b :=
 ⟨h.os, h.tape, h.output, h.size, fun k hk hT => h.block k (by omega) hT⟩
theorem Kpt.of_below {n m : Nat} {T : List Nat} {a b : World} (h : Below m a b) (hn : n ≤ m) : Kpt n T a b :=
 ⟨h.os, h.tape, h.output, h.size, fun k hk _ => h.block k (by omega)⟩
theorem Kpt.mono {n m : Nat} {S T : List Nat} {a b : World} (h : Kpt m S a b) (hn : n ≤ m) (hS : ∀ x ∈ S, x ∈ T) : Kpt n T a b :=
 ⟨h.os, h.tape, h.output, h.size, fun k hk hT => h.block k (by omega) (fun hs => hT (hS k hs))⟩
theorem Kpt.chg {T : List Nat} {a b : World} (h : Kpt a.heap.size T a b) : Chg T a b := ⟨h.os, h.tape, h.output, h.size, fun k hk hT => h.block k hk hT⟩

def brkPost {α : Type} (I : List α → World → Prop) (Ix : Code → List α → World → Prop) (n₁ : Nat) (T : List Nat) (xs : List α) (W : World) : Exit → Act → World → Prop
 | .normal, _, W' => KeepsOthers W W' ∧ Kpt n₁ T W W' ∧ I xs W'
 | .ret, _, W' => KeepsOthers W W' ∧ Ix .ret xs W'
 | .exit id, _, W' => KeepsOthers W W' ∧ Ix (.exit id) xs W'
 | _, _, _ => False

theorem range_brk {α : Type} {P : Program} {n : Nat} {g : Operand} {ps : Array Tmp} {assign body : Code} {Q : Exit → Act → World → Prop} {a : Act} {w : World} {gf : Nat} {lb : Array Value}
  (hg : a.eval g = .func (.func gf) #[] lb) (eg : ∀ args w, (callFunc gf args).run P w = .ok (.enter gf args) w) {encs : α → Array Value} {S Sp : List α → Prop} {Ex : List α → α → World → Prop} {n₁ : Nat} (hn₁ : n₁ ≤ w.heap.size) {Si T : List Nat} (hSi : ∀ x ∈ Si, x < w.heap.size)
  (hseq : ∀ (l : Nat) (J Jx : List α → World → Prop) (W : World), Below w.heap.size w W → (∀ pre A B, J pre A → Kpt W.heap.size Si A B → J pre B) → (∀ pre A B, Jx pre A → Kpt W.heap.size Si A B → Jx pre B) →
   (∀ pre x W1, J pre W1 → Ex pre x W1 → YieldAt Fence.wide (n - 1 - 1) P l (encs x) W1 fun e W' => (e = .returned (.bool true) ∧ J (pre ++ [x]) W' ∧ Kpt n₁ T W1 W') ∨ (e = .returned (.bool false) ∧ Jx (pre ++ [x]) W')) →
   J [] W → CallsIn Fence.wide (n - 1) P gf (#[.func (.yield l) #[] #[]] ++ lb) W fun e W' => (∃ v, e = .returned v) ∧ ((∃ xs, S xs ∧ J xs W') ∨ ∃ xs, Sp xs ∧ Jx xs W'))
  (hps : ∀ x, (encs x).size = ps.size) (I : List α → World → Prop) (Ix : Code → List α → World → Prop) (hI : ∀ pre A B, I pre A → Kpt w.heap.size Si A B → I pre B) (hIx : ∀ c pre A B, Ix c pre A → Kpt w.heap.size Si A B → Ix c pre B) (h0 : I [] w)
  (hEx : ∀ pre x W l o o', W.heap[l]? = some o → o.isCells = false → Ex pre x W → Ex pre x (W.putObj l o')) (a₁ : α → Act)
  (hassign : ∀ (l : Nat) (x : α) (W : World) (K : Act → World → Prop), K (a₁ x) W →
   assign.wpIn (Fence.wide.inRound l) (n - 1 - 1) P (Exit.then K (fun _ _ _ => False)) { tmps := (ps.zip (encs x)).foldl (fun t (p, v) => t.setIfInBounds p v) a.tmps, defers := [] } W)
  (hbody : ∀ (l : Nat) (pre : List α) (x : α) (W : World), I pre W → Ex pre x W → body.wpIn (Fence.wide.inRound l) (n - 1 - 1) P (brkPost I Ix n₁ T (pre ++ [x]) W) (a₁ x) W)
  (hdone : ∀ (D : Nat) (xs : List α) (W : World), w.heap.size ≤ D → S xs → I xs W → W.heap[D]? = some (.deferred (some [])) → Q .normal { a with defers := { target := .collected D, args := #[] } :: a.defers } W)
  (hstop : ∀ (D : Nat) (c : Code) (xs : List α) (W : World), w.heap.size ≤ D → Sp xs → Ix c xs W → W.heap[D]? = some (.deferred (some [])) → c.wpIn Fence.wide n P Q { a with defers := { target := .collected D, args := #[] } :: a.defers } W) :
  (Code.rangeFunc g ps assign body).wpIn Fence.wide n P Q a w := by
 refine wpIn_rangeFunc ?_
 intro fn hfn
 obtain ⟨rc, hrc⟩ : ∃ rc : LoopState → Option Code → Loop, rc = fun st pe => { state := st, pending := pe, fn, tmps := a.tmps, params := ps, assign, body, defers := w.heap.size } := ⟨_, rfl⟩
 obtain ⟨V, hV, hcV, hD0, hL0⟩ := news2 w (.deferred (some [])) (.loop (rc .ready none))
 have hsV : V.heap.size = w.heap.size + 2 := by rw [hV]; simp
 have bV : Below w.heap.size w V := by rw [hV]; exact ((Below.refl _ w).alloc (Nat.le_refl _) _).alloc (by simp) _
 refine ⟨w.heap.size + 1, [{ target := .collected w.heap.size, args := #[] }], V, { target := .fn (.func gf) lb, args := #[.func (.yield (w.heap.size + 1)) #[] #[]] }, V, gf,
  #[.func (.yield (w.heap.size + 1)) #[] #[]] ++ lb, V, ?_, ?_, fun _ _ => trivial, ?_, fun h => by simp [Fence.wide] at h, ?_⟩
 ·
  rw [hV, hrc]; exact run_enterLoop_outer _ _ _ _ _
 ·
  simp only [resolve, hg]
  simp [go_sem]
 ·
  simp [invoke, go_sem, eg]
 ·
  -- the record and the row of deferred calls, turned or not, lie at or behind w's end
  have turn : ∀ (W : World) (o : Obj) (o' : Obj), W.heap[w.heap.size + 1]? = some o → o.isCells = false → o.isWalk = false → ∀ m, m ≤ w.heap.size → Below m W (W.putObj (w.heap.size + 1) o') :=
   fun W o o' h hc hw m hm => belowK_b (w := w) hm W _ o o' (by omega) h hc hw
  have far : ∀ k, w.heap.size ≤ k → k ∉ Si := fun k hk h => by have := hSi k h; omega
  refine (hseq (w.heap.size + 1) (fun pre W => I pre W ∧ W.heap[w.heap.size + 1]? = some (.loop (rc .ready none)) ∧ W.heap[w.heap.size]? = some (.deferred (some [])))
   (fun pre W => ∃ c, Ix c pre W ∧ W.heap[w.heap.size + 1]? = some (.loop (rc .done (some c))) ∧ W.heap[w.heap.size]? = some (.deferred (some []))) V bV ?_ ?_ ?_
   ⟨hI _ _ _ h0 (Kpt.of_below bV (Nat.le_refl _)), hL0, hD0⟩).mono ?_
  ·
   rintro pre A B ⟨hi, hl, hk⟩ hb
   exact ⟨hI _ _ _ hi (hb.mono (by omega) (fun _ h => h)), (hb.block _ (by omega) (far _ (by omega))).trans hl, (hb.block _ (by omega) (far _ (Nat.le_refl _))).trans hk⟩
  ·
   rintro pre A B ⟨c, hi, hl, hk⟩ hb
   exact ⟨c, hIx _ _ _ _ hi (hb.mono (by omega) (fun _ h => h)), (hb.block _ (by omega) (far _ (by omega))).trans hl, (hb.block _ (by omega) (far _ (Nat.le_refl _))).trans hk⟩
  ·
   rintro pre x W ⟨hi, hl, hk⟩ hx
   have hlt := lt_of_heap hl
   have hy := run_yield (P := P) (args := encs x) hl (by rw [hrc]; exact hps x)
   rw [hrc] at hy
   refine ⟨fn, _, assign, body, hy, roundIn_of_wpIn hfn (hassign _ x W _ ⟨_, run_beginRound hl (by rw [hrc]), ?_⟩)⟩
   have hl2 : (W.putObj (w.heap.size + 1) (.loop { rc .ready none with state := .busy })).heap[w.heap.size + 1]? = some (.loop { rc .ready none with state := .busy }) := World.putObj_heap_same hlt
   have hk2 : (W.putObj (w.heap.size + 1) (.loop { rc .ready none with state := .busy })).heap[w.heap.size]? = some (.deferred (some [])) := (World.putObj_heap_other (by omega)).trans hk
   have b2 := turn W _ (.loop { rc .ready none with state := .busy }) hl rfl rfl
   refine wpIn_mono (hbody _ pre x _ (hI _ _ _ hi (Kpt.of_below (b2 _ (Nat.le_refl _)) (Nat.le_refl _))) (hEx pre x W _ _ _ hl rfl hx)) ?_
   have fin : ∀ (c : Code) (W3 : World), KeepsOthers (W.putObj (w.heap.size + 1) (.loop { rc .ready none with state := .busy })) W3 → Ix c (pre ++ [x]) W3 →
     ∃ v w', (Instr.endRound (w.heap.size + 1) (some c)).run P W3 = .ok v w' ∧ ((Ending.returned v = .returned (.bool true) ∧ (I (pre ++ [x]) w' ∧ w'.heap[w.heap.size + 1]? = some (.loop (rc .ready none)) ∧ w'.heap[w.heap.size]? = some (.deferred (some []))) ∧ Kpt n₁ T W w') ∨
      (Ending.returned v = .returned (.bool false) ∧ ∃ c, Ix c (pre ++ [x]) w' ∧ w'.heap[w.heap.size + 1]? = some (.loop (rc .done (some c))) ∧ w'.heap[w.heap.size]? = some (.deferred (some [])))) := by
    intro c W3 hk3 hi3
    have hl3 := hk3.same _ _ hl2 rfl
    have hd3 := hk3.same _ _ hk2 rfl
    have hr := run_endRound (P := P) (some c) hl3
    have b4 := turn W3 _ (.loop (rc .done (some c))) hl3 rfl rfl
    refine ⟨_, _, hr, .inr ⟨rfl, c, ?_, ?_, ?_⟩⟩
    ·
     have := hIx _ _ _ _ hi3 (Kpt.of_below (b4 _ (Nat.le_refl _)) (Nat.le_refl _))
     rw [hrc] at this ⊢
     exact this
    ·
     rw [hrc]; exact World.putObj_heap_same (lt_of_heap hl3)
    ·
     exact (World.putObj_heap_other (by omega)).trans hd3
   rintro e a3 W3 hp
   cases e with
   | normal =>
    obtain ⟨hk3, hb3, hi3⟩ := hp
    have hl3 := hk3.same _ _ hl2 rfl
    have hd3 := hk3.same _ _ hk2 rfl
    have hr := run_endRound (P := P) none hl3
    have b4 := turn W3 _ (.loop (rc .ready none)) hl3 rfl rfl
    refine ⟨_, _, hr, .inl ⟨rfl, ⟨?_, ?_, ?_⟩, ?_⟩⟩
    ·
     have := hI _ _ _ hi3 (Kpt.of_below (b4 _ (Nat.le_refl _)) (Nat.le_refl _))
     rw [hrc] at this ⊢
     exact this
    ·
     rw [hrc]; exact World.putObj_heap_same (lt_of_heap hl3)
    ·
     exact (World.putObj_heap_other (by omega)).trans hd3
    ·
     have := ((Kpt.of_below (T := T) (b2 _ hn₁) (Nat.le_refl _)).trans hb3).trans (Kpt.of_below (b4 _ hn₁) (Nat.le_refl _))
     rw [hrc] at this ⊢
     exact this
   | ret => exact fin .ret W3 hp.1 hp.2
   | exit id => exact fin (.exit id) W3 hp.1 hp.2
   | goto t => exact hp.elim
   | panic ch => exact hp.elim
   | outgrown => exact hp.elim
  ·
   rintro e W2 ⟨⟨v, rfl⟩, (⟨xs, hS, hi, hl, hk⟩ | ⟨xs, hS, c, hi, hl, hk⟩)⟩
   ·
    refine ⟨none, _, by have := run_endLoop (P := P) hl (by rw [hrc]; simp); rw [hrc] at this; exact this, hdone _ xs _ (Nat.le_refl _) hS ?_ ((World.putObj_heap_other (by omega)).trans hk)⟩
    exact hI _ _ _ hi (Kpt.of_below (turn W2 _ _ hl rfl rfl _ (Nat.le_refl _)) (Nat.le_refl _))
   ·
    refine ⟨some c, _, by have := run_endLoop (P := P) hl (by rw [hrc]; simp); rw [hrc] at this; exact this, hstop _ c xs _ (Nat.le_refl _) hS ?_ ((World.putObj_heap_other (by omega)).trans hk)⟩
    exact hIx _ _ _ _ hi (Kpt.of_below (turn W2 _ _ hl rfl rfl _ (Nat.le_refl _)) (Nat.le_refl _))
end
section
open Go.RowKit
attribute [local go_sem] Oper.semAt_some

theorem idx_no : ∀ (l : List UInt8), 47 ∉ l → Lib.indexByte l 47 = -1
 | [], _ => rfl
 | b :: l, h => by
  simp only [List.mem_cons, not_or] at h
  have hb : (b == 47) = false := by simpa using fun e => h.1 e.symm
  simp [Lib.indexByte, hb, idx_no l h.2]
theorem idx_at : ∀ (a b : List UInt8), 47 ∉ a → Lib.indexByte (a ++ 47 :: b) 47 = (a.length : Int)
 | [], b, _ => by simp [Lib.indexByte]
 | x :: a, b, h => by
  simp only [List.mem_cons, not_or] at h
  have hb : (x == 47) = false := by simpa using fun e => h.1 e.symm
  have := idx_at a b h.2
  simp only [List.cons_append, Lib.indexByte, hb, this]
  have h2 : ((a.length : Int) == -1) = false := by simp
  simp [h2]
theorem at47 (l : List UInt8) : 47 ∉ l ∨ ∃ a b, l = a ++ 47 :: b ∧ 47 ∉ a := by
 by_cases h : 47 ∈ l
 ·
  right
  induction l with
  | nil => simp at h
  | cons x l ih =>
   by_cases hx : x = 47
   ·
    subst hx; exact ⟨[], l, rfl, by simp⟩
   ·
    have : 47 ∈ l := by
     rcases List.mem_cons.1 h with h | h
     ·
      exact absurd h.symm hx
     ·
      exact h
    obtain ⟨a, b, e, ha⟩ := ih this
    refine ⟨x :: a, b, by rw [e]; rfl, ?_⟩
    simp only [List.mem_cons, not_or]
    exact ⟨fun e => hx e.symm, ha⟩
 ·
  exact .inl h
theorem index_no (w : World) (l : List UInt8) (h : 47 ∉ l) : Calls Tryz.prog 216 #[.string (strOf l), .string ⟨#[47]⟩] w fun e w' => e = .returned (.int .i64 (-1)) ∧ w' = w := by
 refine (Any.strings_Index_one Tryz.lays143 (strOf l) 47 w).mono ?_
 rintro e w' ⟨rfl, rfl⟩
 rw [strOf_data, idx_no l h]
 exact ⟨rfl, rfl⟩
theorem index_at (w : World) (a b : List UInt8) (h : 47 ∉ a) : Calls Tryz.prog 216 #[.string (strOf (a ++ 47 :: b)), .string ⟨#[47]⟩] w fun e w' => e = .returned (.int .i64 (a.length : Int)) ∧ w' = w := by
 refine (Any.strings_Index_one Tryz.lays143 (strOf (a ++ 47 :: b)) 47 w).mono ?_
 rintro e w' ⟨rfl, rfl⟩
 rw [strOf_data, idx_at a b h]
 exact ⟨rfl, rfl⟩
set_option maxRecDepth 100000 in
theorem split1_gives (n : Nat) (l n₁ bs bp bv : Nat) (T : List Nat) (xs : List UInt8) (hlen : xs.length ≤ 140737488351232)
  (J Jx : List (List UInt8) → World → Prop) (W : World) (hs1 : bs < n₁) (hp1 : bp < n₁) (hv1 : bv < n₁) (hsp : bs ≠ bp) (hsv : bs ≠ bv) (hTs : bs ∉ T) (hTp : bp ∉ T) (hTv : bv ∉ T) (hn₁ : n₁ ≤ W.heap.size)
  (hJ : ∀ pre A B, J pre A → Kpt W.heap.size [bs] A B → J pre B)
  (hY : ∀ pre x W1, J pre W1 → (pre ++ [x]) <+: cutL xs → YieldAt Fence.wide n Tryz.prog l #[.string (strOf x)] W1 fun e W' => (e = .returned (.bool true) ∧ J (pre ++ [x]) W' ∧ Kpt n₁ T W1 W') ∨ (e = .returned (.bool false) ∧ Jx (pre ++ [x]) W'))
  (hp : W.cell? ⟨bp, 0, none⟩ = some (.string ⟨#[47]⟩)) (hs : W.heap[bs]? = some (.cells #[.string (strOf xs)] 9 (0, 0))) (hv : W.cell? ⟨bv, 0, none⟩ = some (.int .i64 0)) (h0 : J [] W) :
  CallsIn Fence.wide (n + 1) Tryz.prog 218 #[.func (.yield l) #[] #[], .pointer (some ⟨bp, 0, none⟩), .pointer (some ⟨bs, 0, none⟩), .pointer (some ⟨bv, 0, none⟩)] W fun e W' => (∃ v, e = .returned v) ∧ ((∃ ys, ys = cutL xs ∧ J ys W') ∨ ∃ ys, True ∧ Jx ys W') := by
 have h1 : 1 ≤ n + 1 := by omega
 have hro : Fence.wide.round = none := rfl
 refine callsIn_of_wp Tryz.func218 rfl trivial ?_ hro
 simp only [Tryz.ntmps218, List.size_toArray, List.length_cons, List.length_nil, Nat.reduceAdd, Nat.reduceSub, Array.replicate_succ, Array.replicate_zero, List.push_toArray, List.append_toArray, List.nil_append, List.cons_append]
 gi_wp2
 gi_loopw [7, 8] (fun v7 v8 wr => ∃ (pre : List (List UInt8)) (rest : List UInt8), pre ++ cutA [] rest = cutL xs ∧ rest.length ≤ xs.length ∧ wr.heap[bs]? = some (.cells #[.string (strOf rest)] 9 (0, 0)) ∧ J pre wr ∧ Kpt n₁ (bs :: T) W wr)
  (fun _ _ wr => match wr.cell? ⟨bs, 0, none⟩ with | some (.string s) => s.size | _ => 0)
 case atStart => exact ⟨[], xs, rfl, Nat.le_refl _, hs, h0, Kpt.refl _ _ _⟩
 case round =>
  obtain ⟨pre, rest, hcut, hrl, hcell, hJs, hk⟩ := hrel
  have hbs := lt_of_heap hcell
  have cs := ce1 hcell
  have cf := free_of hcell 0
  have cp := ((by rw [World.cell?, World.cell?, hk.block bp hp1 (by simp; exact ⟨fun e => hsp e.symm, hTp⟩)] : wr.cell? ⟨bp, 0, none⟩ = W.cell? ⟨bp, 0, none⟩)).trans hp
  have cv := ((by rw [World.cell?, World.cell?, hk.block bv hv1 (by simp; exact ⟨fun e => hsv e.symm, hTv⟩)] : wr.cell? ⟨bv, 0, none⟩ = W.cell? ⟨bv, 0, none⟩)).trans hv
  rcases at47 rest with hno | ⟨a, b, rfl, hno⟩
  ·
   -- the last piece
   rw [cutA_no _ _ hno, List.nil_append] at hcut
   obtain ⟨fn, tmps, assign, body, hy, hR⟩ := hY pre rest wr hJs (by rw [hcut]; exact List.prefix_refl _)
   gi_wp2_with (refine ⟨trivial, ?_⟩; gi_at_call 216; refine (callsIn_wide.2 (index_no _ rest hno)).mono ?_; rintro e w1 ⟨rfl, rfl⟩)
   refine hR.mono ?_
   rintro e W3 (⟨rfl, hJ3, hk3⟩ | ⟨rfl, hx⟩)
   ·
    gi_wp2
    go_end0
    exact ⟨⟨_, rfl⟩, .inl ⟨_, hcut, hJ3⟩⟩
   ·
    gi_wp2
    go_end0
    exact ⟨⟨_, rfl⟩, .inr ⟨_, trivial, hx⟩⟩
  ·
   -- a piece, and more behind it
   rw [cutA_at _ _ _ hno, List.nil_append] at hcut
   obtain ⟨fn, tmps, assign, body, hy, hR⟩ := hY pre a wr hJs ⟨cutA [] b, by rw [← hcut]; simp⟩
   have ez : (strOf (a ++ 47 :: b)).size = a.length + 1 + b.length := by rw [strOf_size]; simp; omega
   have hrl' : a.length + 1 + b.length ≤ xs.length := by rw [← strOf_size, ez] at hrl; exact hrl
   have i0 : (0 : Int) ≤ (a.length : Int) := by omega
   have i4 : a.length + 1 ≤ 140737488351232 := by omega
   have i1 : ¬ ((a.length : Int) < 0) := by omega
   have i2 : (a.length : Int) ≤ ((strOf (a ++ 47 :: b)).size : Int) := by rw [ez]; omega
   have i3 : (a.length : Int) + 1 ≤ ((strOf (a ++ 47 :: b)).size : Int) := by rw [ez]; omega
   have e1 : (strOf (a ++ 47 :: b)).extract 0 a.length = strOf a := by rw [strOf_ext]; simp
   have e2 : (strOf (a ++ 47 :: b)).extract (a.length + 1) (strOf (a ++ 47 :: b)).size = strOf b := by
    rw [strOf_ext, ez]
    congr 1
    rw [show (a ++ 47 :: b).drop (a.length + 1) = b by rw [show a ++ 47 :: b = (a ++ [47]) ++ b by simp]; exact List.drop_left' (by simp)]
    exact List.take_of_length_le (by omega)
   gi_wp2_with (refine ⟨trivial, ?_⟩; gi_at_call 216; refine (callsIn_wide.2 (index_at _ a b hno)).mono ?_; rintro e w1 ⟨rfl, rfl⟩)
   refine hR.mono ?_
   rintro e W3 (⟨rfl, hJ3, hk3⟩ | ⟨rfl, hx⟩)
   ·
    have hc3 : W3.heap[bs]? = some (.cells #[.string (strOf (a ++ 47 :: b))] 9 (0, 0)) := (hk3.block bs hs1 hTs).trans hcell
    have cs3 := ce1 hc3
    have cf3 := free_of hc3 0
    have cp3 : W3.cell? ⟨bp, 0, none⟩ = some (.string ⟨#[47]⟩) := ((by rw [World.cell?, World.cell?, hk3.block bp hp1 hTp] : W3.cell? ⟨bp, 0, none⟩ = w1.cell? ⟨bp, 0, none⟩)).trans cp
    have e3 : (W3.setCell ⟨bs, 0, none⟩ (.string (strOf b))).heap[bs]? = some (.cells #[.string (strOf b)] 9 (0, 0)) := by simpa using heap_setCell_same W3 bs 0 _ _ (.string (strOf b)) hc3
    have E2 := h_ (show (strOf (a ++ 47 :: b)).extract (a.length + 1) (a.length + 1 + b.length) = strOf b by rw [← ez]; exact e2)
    have K3 := h_ hc3
    have JJ := h_ (hJ _ _ (W3.setCell ⟨bs, 0, none⟩ (.string (strOf b))) hJ3 (Kpt.of_chg ((Chg.refl [bs] W3).setCell (p := ⟨bs, 0, none⟩) (.inl (by simp)) _) (by have := hk.size; have := hk3.size; omega)))
    clear hc3
    gi_wp2
    go_roundw
    case rel =>
     rw [E2.out]
     exact ⟨pre ++ [a], b, by rw [← hcut]; simp, by omega, e3, JJ.out, (hk.trans (hk3.mono (Nat.le_refl _) (fun x h => List.mem_cons_of_mem _ h))).trans (Kpt.of_chg ((Chg.refl [bs] W3).setCell (p := ⟨bs, 0, none⟩) (.inl (by simp)) _) (by have := hk.size; have := hk3.size; omega) |>.mono (Nat.le_refl _) (by simp))⟩
    case measure =>
     have e4 := ce1 e3
     rw [E2.out, e4, cs]
     show (strOf b).size < (strOf (a ++ 47 :: b)).size
     rw [strOf_size, ez]
     omega
   ·
    gi_wp2
    refine bodyPost_ret (results_none rfl _ _ _) rfl ?_
    exact ⟨⟨_, rfl⟩, .inr ⟨_, trivial, hx⟩⟩
end
section
open Go.RowKit
theorem isForeign_any (w : World) (x : Nat) (hx : x ≤ 1114111) :
  Calls Tryz.prog 207 #[.int .i32 (x : Int)] w fun e w' => e = .returned (.bool (foreignR x)) ∧ ∃ q, w' = w.drewN q := by
 go_enter Tryz.func207, Tryz.ntmps207
 go_wp2
 all_goals
  go_ret
  refine ⟨congrArg (fun b => Ending.returned (Value.bool b)) ?_, 0, rfl⟩
  rw [Bool.eq_iff_iff]
  simp [foreignR]
  omega
theorem idxFunc_okB (s : ByteArray) : ∀ (f pos : Nat), s.size ≤ pos + f → (0 ≤ Lib.idxFuncFrom foreignR true s f pos ↔ (s.data.toList.drop pos).all okB = false)
 | 0, pos, h => by
  have : s.data.toList.drop pos = [] := List.drop_of_length_le (by simpa using h)
  rw [this]
  simp [Lib.idxFuncFrom]
 | f + 1, pos, h => by
  unfold Lib.idxFuncFrom
  by_cases hp : pos < s.size
  ·
   rw [if_pos hp]
   have hp' : pos < s.data.toList.length := by simpa using hp
   have hb := List.getElem?_eq_getElem hp'
   obtain ⟨h1, h2⟩ := foreign_at s pos _ hb
   rw [List.drop_eq_getElem_cons hp', List.all_cons]
   cases ho : okB s.data.toList[pos] with
   | false =>
    rw [ho] at h1
    rw [if_pos (by rw [h1]; rfl)]
    simp
   | true =>
    rw [ho] at h1
    rw [if_neg (by rw [h1]; simp), h2 ho, idxFunc_okB s f (pos + 1) (by omega)]
    simp
  ·
   rw [if_neg hp]
   have : s.data.toList.drop pos = [] := List.drop_of_length_le (by simpa using hp)
   rw [this]
   simp
theorem contains_any (w : World) (l : List UInt8) :
  Calls Tryz.prog 206 #[.string (strOf l), .func (.func 207) #[] #[]] w fun e w' => e = .returned (.bool (!l.all okB)) ∧ Below w.heap.size w w' := by
 refine (Any.strings_ContainsFunc_runes Tryz.laysGw17 207 #[] (enters_of Tryz.func207 (by kernel_rfl) rfl) foreignR (strOf l) w (fun W x hx _ => isForeign_any W x hx)).mono ?_
 rintro e w' ⟨rfl, h⟩
 refine ⟨?_, h⟩
 congr 2
 have := idxFunc_okB (strOf l) (strOf l).size 0 (by omega)
 rw [List.drop_zero, strOf_data] at this
 unfold Lib.idxFunc
 cases ha : l.all okB with
 | true =>
  rw [ha] at this
  simpa using this
 | false =>
  rw [ha] at this
  simpa using this
theorem partL_no {l : List UInt8} (h : l = [] ∨ 12 < l.length ∨ l = [46] ∨ l = [46, 46]) : partL 12 l = false := by
 rcases h with rfl | h | rfl | rfl
 ·
  rfl
 ·
  simp [partL]
  omega
 ·
  rfl
 ·
  rfl
theorem partL_yes {l : List UInt8} (h0 : l ≠ []) (h1 : l.length ≤ 12) (h2 : l ≠ [46]) (h3 : l ≠ [46, 46]) : partL 12 l = l.all okB := by
 have : 1 ≤ l.length := by
  cases l with
  | nil => exact absurd rfl h0
  | cons => simp
 rw [Bool.eq_iff_iff]
 simp [partL, h1, h2, h3, this]
theorem isPart_any (w : World) (l : List UInt8) :
  Calls Tryz.prog 187 #[.string (strOf l)] w fun e w' => e = .returned (.bool (partL 12 l)) ∧ Below w.heap.size w w' := by
 have hs := strOf_size l
 by_cases h : l = [] ∨ 12 < l.length ∨ l = [46] ∨ l = [46, 46]
 ·
  rw [partL_no h]
  rcases h with h | h | h | h
  ·
   subst h
   go_enter Tryz.func187, Tryz.ntmps187
   go_wp2_with fail; go_ret
   exact ⟨rfl, Below.refl _ _⟩
  ·
   have h1 : l ≠ [] := by rintro rfl; simp at h
   have h2 : (12 : Int) < ((strOf l).size : Int) := by omega
   have h3 : l.isEmpty = false := by simpa using h1
   go_enter Tryz.func187, Tryz.ntmps187
   go_wp2_with fail; go_ret
   exact ⟨rfl, Below.refl _ _⟩
  ·
   subst h
   go_enter Tryz.func187, Tryz.ntmps187
   go_wp2_with fail; go_ret
   exact ⟨rfl, Below.refl _ _⟩
  ·
   subst h
   go_enter Tryz.func187, Tryz.ntmps187
   go_wp2_with fail; go_ret
   exact ⟨rfl, Below.refl _ _⟩
 ·
  simp only [not_or] at h
  obtain ⟨h0, h1, h2, h3⟩ := h
  rw [partL_yes h0 (by omega) h2 h3]
  have e0 : l.isEmpty = false := by simpa using h0
  have e1 : ((strOf l).size : Int) ≤ 12 := by omega
  have e2 : (l == [46]) = false := by simpa using h2
  have e3 : (l == [46, 46]) = false := by simpa using h3
  have e4 : ¬ ((12 : Int) < ((strOf l).size : Int)) := by omega
  go_enter Tryz.func187, Tryz.ntmps187
  go_wp2_with fail
  refine (contains_any _ l).mono ?_
  rintro e w1 ⟨rfl, hb⟩
  go_wp2_with fail; go_ret
  exact ⟨by simp, hb⟩
end
section
open Go.RowKit
attribute [local go_sem] Oper.semAt_some
theorem wpIn_scope {P : Program} {n : Nat} {c : Code} {Q : Exit → Act → World → Prop} {a : Act} {w : World} (h : c.wpIn Fence.wide n P (Exit.noGoto Q) a w) : (Code.scope c).wpIn Fence.wide n P Q a w := wpIn_wide.2 (wp_scope_straight (wpIn_wide.1 h))
theorem below_others {W W' : World} (h : Below W.heap.size W W') : KeepsOthers W W' :=
 ⟨h.size, fun k o hk _ => (h.block k (Array.getElem?_eq_some_iff.1 hk).1).trans hk⟩
theorem splitSeq0_any (w : World) (l : List UInt8) : Calls Tryz.prog 205 #[.string (strOf l), .string ⟨#[47]⟩, .int .i64 0] w fun e w' =>
  e = .returned (.func (.func 218) #[] #[.pointer (some ⟨w.heap.size + 1, 0, none⟩), .pointer (some ⟨w.heap.size, 0, none⟩), .pointer (some ⟨w.heap.size + 2, 0, none⟩)]) ∧
  w' = ((w.alloc (.cells #[.string (strOf l)] 9)).alloc (.cells #[.string ⟨#[47]⟩] 9)).alloc (.cells #[.int .i64 0] 3) := by
 go_enter Tryz.func205, Tryz.ntmps205
 go_wp2; go_ret
 exact ⟨by simp, rfl⟩
theorem splitSeq_any (w : World) (l : List UInt8) : Calls Tryz.prog 186 #[.string (strOf l), .string ⟨#[47]⟩] w fun e w' =>
  e = .returned (.func (.func 218) #[] #[.pointer (some ⟨w.heap.size + 1, 0, none⟩), .pointer (some ⟨w.heap.size, 0, none⟩), .pointer (some ⟨w.heap.size + 2, 0, none⟩)]) ∧
  w' = ((w.alloc (.cells #[.string (strOf l)] 9)).alloc (.cells #[.string ⟨#[47]⟩] 9)).alloc (.cells #[.int .i64 0] 3) := by
 go_enter Tryz.func186, Tryz.ntmps186
 go_wp2_with fail
 refine (splitSeq0_any _ l).mono ?_
 rintro e w1 ⟨rfl, rfl⟩
 go_wp2; go_ret
 exact ⟨by simp, rfl⟩
theorem all_prefix {p : List UInt8 → Bool} {pre l : List (List UInt8)} {x : List UInt8} (h : (pre ++ [x]) <+: l) (hx : p x = false) : l.all p = false := by
 obtain ⟨t, rfl⟩ := h
 simp [hx]
theorem check_no1 {l : List UInt8} {pre : List (List UInt8)} {x : List UInt8} (h : (pre ++ [x]) <+: cutL l) (hx : partL 12 x = false) : checkL 6 12 l = false := by
 unfold checkL
 rw [all_prefix h hx, Bool.and_false]
theorem check_no2 {l : List UInt8} {pre : List (List UInt8)} {x : List UInt8} (h : (pre ++ [x]) <+: cutL l) (hx : 6 ≤ pre.length) : checkL 6 12 l = false := by
 unfold checkL
 have := h.length_le
 simp at this
 have : ¬ (cutL l).length ≤ 6 := by omega
 simp [this]
set_option maxRecDepth 100000 in
theorem phcheck_any (w : World) (l : List UInt8) (hlen : l.length ≤ 140737488351232) :
  Calls Tryz.prog 150 #[.string (strOf l)] w fun e w' => e = .returned (.int .i64 (if checkL 6 12 l then 0 else 2)) ∧ Below w.heap.size w w' := by
 have h1 : 1 ≤ 5 := by omega
 have hro : Fence.wide.round = none := rfl
 refine (callsIn_wide (n := 5)).1 ?_
 refine callsIn_of_wp_marks Tryz.func150 rfl trivial ?_ hro
 simp only [Tryz.ntmps150, List.size_toArray, List.length_cons, List.length_nil, Nat.reduceAdd, Nat.reduceSub, Array.replicate_succ, Array.replicate_zero, List.push_toArray, List.append_toArray, List.nil_append, List.cons_append]
 gi_wp2
 refine wpIn_scope ?_
 obtain ⟨w1, hw1, C1, b0, b1⟩ := news2 w (.cells #[.int .i64 0] 3) (.cells #[.int .i64 0] 50)
 gi_wp2
 refine wpIn_label ?_
 rw [← hw1]
 have hs1 : w1.heap.size = w.heap.size + 2 := by rw [hw1]; simp
 have bw1 : Below w.heap.size w w1 := by rw [hw1]; exact ((Below.refl _ w).alloc (Nat.le_refl _) _).alloc (by simp) _
 obtain ⟨V, hV, CV, v0, v1, v2⟩ := news3 w1 (.cells #[.string (strOf l)] 9) (.cells #[.string ⟨#[47]⟩] 9) (.cells #[.int .i64 0] 3)
 have hsV : V.heap.size = w1.heap.size + 3 := by rw [hV]; simp
 have bV : Below w1.heap.size w1 V := by rw [hV]; exact (((Below.refl _ w1).alloc (Nat.le_refl _) _).alloc (by simp) _).alloc (by simp; omega) _
 have b0' := (bV.block (w.heap.size) (by omega)).trans b0
 have b1' := (bV.block (w.heap.size + 1) (by omega)).trans b1
 have bwV : Below w.heap.size w V := bw1.trans ⟨bV.os, bV.tape, bV.output, bV.size, fun i hi => bV.block i (by omega)⟩
 have HW1 := h_ hw1
 have HS1 := h_ hs1
 clear hw1 b0 b1 bw1 C1 hs1
 gi_wp2_with (refine ⟨trivial, ?_⟩; gi_at_call 186; refine (callsIn_wide.2 (splitSeq_any _ l)).mono ?_; rintro e w2 ⟨rfl, rfl⟩)
 rw [← hV]
 have hs1 := HS1.out
 refine range_brk (gf := 218) (lb := #[.pointer (some ⟨w1.heap.size + 1, 0, none⟩), .pointer (some ⟨w1.heap.size, 0, none⟩), .pointer (some ⟨w1.heap.size + 2, 0, none⟩)]) rfl (enters_of Tryz.func218 (by kernel_rfl) rfl) (encs := fun x : List UInt8 => #[.string (strOf x)]) (n₁ := V.heap.size) (Nat.le_refl _)
  (S := fun ys => ys = cutL l) (Sp := fun _ => True) (Ex := fun pre x _ => (pre ++ [x]) <+: cutL l) (Si := [w1.heap.size]) (T := [w.heap.size, w.heap.size + 1]) ?si ?seq (fun _ => rfl)
  (fun pre W => (W.heap[w.heap.size]? = some (.cells #[.int .i64 (pre.length : Int)] 3 (0, 0)) ∧ W.heap[w.heap.size + 1]? = some (.cells #[.int .i64 0] 50 (0, 0))) ∧ (pre.length ≤ 6 ∧ pre.all (partL 12) = true) ∧ Below w.heap.size w W ∧ V.heap.size ≤ W.heap.size)
  (fun c pre W => c = .exit 0 ∧ W.heap[w.heap.size + 1]? = some (.cells #[.int .i64 2] 50 (0, 0)) ∧ checkL 6 12 l = false ∧ Below w.heap.size w W)
  ?keep ?keepx ⟨⟨by simpa using b0', b1'⟩, ⟨by simp, rfl⟩, bwV, Nat.le_refl _⟩ ?elem
  (fun x => { tmps := #[.string (strOf l), undef, .int .i64 0, .pointer (some ⟨w.heap.size, 0, none⟩), .pointer (some ⟨w.heap.size + 1, 0, none⟩), .string (strOf x), .string (strOf l), .func (.func 218) #[] #[.pointer (some ⟨w1.heap.size + 1, 0, none⟩), .pointer (some ⟨w1.heap.size, 0, none⟩), .pointer (some ⟨w1.heap.size + 2, 0, none⟩)], .string (strOf x), undef, undef, undef, undef, undef, undef, undef, undef, undef, undef], defers := [] }) ?assign ?body ?done ?stop
 case si => intro x hx; simp at hx; omega
 case seq =>
  intro l' J Jx W hW hJ hJx hY h0
  have hs2 := hW.size
  exact split1_gives 3 l' V.heap.size w1.heap.size (w1.heap.size + 1) (w1.heap.size + 2) [w.heap.size, w.heap.size + 1] l hlen J Jx W (by omega) (by omega) (by omega) (by omega) (by omega) (by simp; omega) (by simp; omega) (by simp; omega) (by omega) hJ hY
   ((hW.cell (p := ⟨w1.heap.size + 1, 0, none⟩) (show w1.heap.size + 1 < V.heap.size by omega)).trans (by rw [cell_of v1]; rfl)) ((hW.block _ (by omega)).trans v0) ((hW.cell (p := ⟨w1.heap.size + 2, 0, none⟩) (show w1.heap.size + 2 < V.heap.size by omega)).trans (by rw [cell_of v2]; rfl)) h0
 case keep =>
  rintro pre A' B' ⟨⟨e4, e5⟩, hp, b, hz⟩ hb
  exact ⟨⟨(hb.block _ (by omega) (by simp; omega)).trans e4, (hb.block _ (by omega) (by simp; omega)).trans e5⟩, hp, b.trans ⟨hb.os, hb.tape, hb.output, hb.size, fun k hk => hb.block k (by omega) (by simp; omega)⟩, Nat.le_trans hz hb.size⟩
 case keepx =>
  rintro c pre A' B' ⟨hc, e5, hp, b⟩ hb
  exact ⟨hc, (hb.block _ (by omega) (by simp; omega)).trans e5, hp, b.trans ⟨hb.os, hb.tape, hb.output, hb.size, fun k hk => hb.block k (by omega) (by simp; omega)⟩⟩
 case elem =>
  rintro pre x W l o o' hl ho hx
  exact hx
 case assign =>
  intro l x W K hK
  clear hs1
  gi_wp2
  exact hK
 case body =>
  rintro l' pre x W ⟨⟨e4, e5⟩, ⟨hp1, hp2⟩, b, hz⟩ hx
  have c4 := cell_of e4 0
  have f4 := free_of e4 0
  have c5 := cell_of e5 0
  have f5 := free_of e5 0
  simp only [gA, gZ] at c4 c5
  have q4 : (W.setCell ⟨w.heap.size, 0, none⟩ (.int .i64 ((pre.length : Int) + 1))).heap[w.heap.size]? = some (.cells #[.int .i64 ((pre.length : Int) + 1)] 3 (0, 0)) := by simpa using heap_setCell_same W w.heap.size 0 _ _ (.int .i64 ((pre.length : Int) + 1)) e4
  have q5 : (W.setCell ⟨w.heap.size, 0, none⟩ (.int .i64 ((pre.length : Int) + 1))).heap[w.heap.size + 1]? = some (.cells #[.int .i64 0] 50 (0, 0)) := (heap_setCell_other W ⟨w.heap.size, 0, none⟩ (w.heap.size + 1) _ (by simp)).trans e5
  have bW : Below w.heap.size w (W.setCell ⟨w.heap.size, 0, none⟩ (.int .i64 ((pre.length : Int) + 1))) := b.setCell (p := ⟨w.heap.size, 0, none⟩) (Nat.le_refl _) _
  have HX := h_ hx
  have HP := h_ hp2
  have BW := h_ bW
  have Q4 := h_ q4
  have Q5 := h_ q5
  have HZ := h_ hz
  have KW := h_ ((Chg.refl [w.heap.size] W).setCell (p := ⟨w.heap.size, 0, none⟩) (.inl (by simp)) (.int .i64 ((pre.length : Int) + 1)))
  clear hs1 hx hp2 b e4 e5 q4 q5 bW hz
  have k0 : IntKind.i64.wrap ((pre.length : Int) + 1) = (pre.length : Int) + 1 := IntWalk.i64_in _ (by omega)
  by_cases h6 : 6 ≤ pre.length
  ·
   have i6 : (6 : Int) < (pre.length : Int) + 1 := by omega
   gi_wp2_with (refine ⟨trivial, ?_⟩)
   exact ⟨(KeepsOthers.setCell _ _ _).trans (KeepsOthers.setCell _ _ _), rfl, by simpa using heap_setCell_same _ (w.heap.size + 1) 0 _ _ (.int .i64 2) Q5.out, check_no2 HX.out h6, BW.out.setCell (p := ⟨w.heap.size + 1, 0, none⟩) (Nat.le_succ _) _⟩
  ·
   have i6 : ¬ ((6 : Int) < (pre.length : Int) + 1) := by omega
   have i7 : (pre.length : Int) + 1 ≤ 6 := by omega
   cases hpx : partL 12 x with
   | false =>
    have PX := h_ (fun w => hpx ▸ isPart_any w x)
    have HPX := h_ hpx
    clear hpx
    gi_wp2_with (refine ⟨trivial, ?_⟩; gi_at_call 187; refine (CallsIn.inRound l' (callsIn_wide.2 (PX.out _))).mono ?_; rintro e w9 ⟨rfl, hb9⟩; have p5 := (hb9.block (w.heap.size + 1) (lt_of_heap Q5.out)).trans Q5.out; have c59 := cell_of p5 0; simp only [gA, gZ] at c59; have f59 := free_of p5 0; have P5 := h_ p5; have P4 := h_ ((hb9.block w.heap.size (lt_of_heap Q4.out)).trans Q4.out); have HB9 := h_ hb9; clear p5 hb9)
    have hbw : Below w.heap.size w w9 := BW.out.trans ⟨HB9.out.os, HB9.out.tape, HB9.out.output, HB9.out.size, fun i hi => HB9.out.block i (Nat.lt_of_lt_of_le hi BW.out.size)⟩
    exact ⟨((KeepsOthers.setCell _ _ _).trans (below_others HB9.out)).trans (KeepsOthers.setCell _ _ _), rfl, by simpa using heap_setCell_same w9 (w.heap.size + 1) 0 _ _ (.int .i64 2) P5.out, check_no1 HX.out HPX.out, hbw.setCell (p := ⟨w.heap.size + 1, 0, none⟩) (Nat.le_succ _) _⟩
   | true =>
    have PX := h_ (fun w => hpx ▸ isPart_any w x)
    have HPX := h_ hpx
    clear hpx
    gi_wp2_with (refine ⟨trivial, ?_⟩; gi_at_call 187; refine (CallsIn.inRound l' (callsIn_wide.2 (PX.out _))).mono ?_; rintro e w9 ⟨rfl, hb9⟩; have p5 := (hb9.block (w.heap.size + 1) (lt_of_heap Q5.out)).trans Q5.out; have c59 := cell_of p5 0; simp only [gA, gZ] at c59; have f59 := free_of p5 0; have P5 := h_ p5; have P4 := h_ ((hb9.block w.heap.size (lt_of_heap Q4.out)).trans Q4.out); have HB9 := h_ hb9; clear p5 hb9)
    have hbw : Below w.heap.size w w9 := BW.out.trans ⟨HB9.out.os, HB9.out.tape, HB9.out.output, HB9.out.size, fun i hi => HB9.out.block i (Nat.lt_of_lt_of_le hi BW.out.size)⟩
    refine ⟨(KeepsOthers.setCell _ _ _).trans (below_others HB9.out), ?_, ⟨⟨by simpa using P4.out, P5.out⟩, ⟨by simp; omega, by simp [HPX.out]; simpa using HP.out⟩, hbw, ?_⟩⟩
    ·
     exact ((Kpt.of_chg KW.out HZ.out).mono (Nat.le_refl _) (by simp)).trans (Kpt.of_below HB9.out (Nat.le_trans HZ.out KW.out.size))
    ·
     exact Nat.le_trans HZ.out (Nat.le_trans KW.out.size HB9.out.size)
 case done =>
  rintro D ys W hD rfl ⟨⟨_, e5⟩, ⟨hp1, hp2⟩, hB, _⟩ hK
  have hck : checkL 6 12 l = true := by simp [checkL, hp1, hp2]
  have c5 := cell_of e5 0
  simp at c5
  have HC := h_ hck
  clear hs1 hck
  gi_wp2
  refine ⟨by simp, .inl ⟨_, _, rfl, run_takeDeferred hK, ?_⟩⟩
  exact ⟨_, results_tmp rfl _ _ _, by rw [HC.out]; rfl, hB.trans (belowK_b (w := w) (Nat.le_refl _) W D _ _ (by have := HS1.out; omega) hK rfl rfl)⟩
 case stop =>
  rintro D c ys W hD _ ⟨rfl, e5, hck, hB⟩ hK
  have c5 := cell_of e5 0
  simp at c5
  have HC := h_ hck
  clear hs1 hck
  refine wpIn_exit ?_
  gi_wp2
  refine ⟨by simp, .inl ⟨_, _, rfl, run_takeDeferred hK, ?_⟩⟩
  exact ⟨_, results_tmp rfl _ _ _, by rw [HC.out]; rfl, hB.trans (belowK_b (w := w) (Nat.le_refl _) W D _ _ (by have := HS1.out; omega) hK rfl rfl)⟩
end
section
open Go.RowKit

theorem kinds_any (w : World) : Calls Tryz.prog 188 #[] w fun e w' => e = .returned (.agg #[.bool false, .int .i64 0, .int .i64 0, .bool true, .int .i64 511, .int .i64 1000, .bool true, .int .i64 511, .int .i64 0, .bool true, .int .i64 0, .int .i64 0]) ∧ Chg [] w w' := by
 go_enter Tryz.func188, Tryz.ntmps188
 go_wp2
 refine bodyPost_ret (v := .agg #[.bool false, .int .i64 0, .int .i64 0, .bool true, .int .i64 511, .int .i64 1000, .bool true, .int .i64 511, .int .i64 0, .bool true, .int .i64 0, .int .i64 0]) (by simp [results, Tryz.results188, go_sem]) rfl ?_
 exact ⟨rfl, (Chg.refl _ _).alloc _⟩

def Fine (k m : Int) (n : Nat) : Prop := k = 1 ∧ 0 ≤ m ∧ m ≤ 511 ∧ n ≤ 1000 ∨ k = 2 ∧ 0 ≤ m ∧ m ≤ 511 ∧ n = 0 ∨ k = 3 ∧ m = 0 ∧ n = 0
instance (k m : Int) (n : Nat) : Decidable (Fine k m n) := by unfold Fine; exact inferInstance
def chkE (k m : Int) (n : Nat) : Int := if Fine k m n then 0 else 2
theorem chkE_fine {k m : Int} {n : Nat} (h : Fine k m n) : chkE k m n = 0 := if_pos h
theorem chkE_odd {k m : Int} {n : Nat} (h : ¬ Fine k m n) : chkE k m n = 2 := if_neg h

theorem check_any (w : World) (k m : Int) (A : Option Addr) (n c : Nat) (hn : n ≤ 140737488351232) :
  Calls Tryz.prog 151 #[.agg #[.int .i64 k, .int .i64 m, .slice A n c]] w fun e w' => e = .returned (.int .i64 (chkE k m n)) ∧ Chg [] w w' := by
 have hk : k < 0 ∨ 4 ≤ k ∨ k = 0 ∨ k = 1 ∨ k = 2 ∨ k = 3 := by omega
 have go : ∀ v, chkE k m n = v → Calls Tryz.prog 151 #[.agg #[.int .i64 k, .int .i64 m, .slice A n c]] w (fun e w' => e = .returned (.int .i64 v) ∧ Chg [] w w') → Calls Tryz.prog 151 #[.agg #[.int .i64 k, .int .i64 m, .slice A n c]] w fun e w' => e = .returned (.int .i64 (chkE k m n)) ∧ Chg [] w w' := fun v hv h => hv ▸ h
 rcases hk with h | h | h | h | h | h
 ·
  refine go 2 (chkE_odd (by unfold Fine; omega)) ?_
  clear go
  go_enter Tryz.func151, Tryz.ntmps151
  go_wp2_with fail
  refine (kinds_any _).mono ?_
  rintro e w1 ⟨rfl, hc⟩
  have q := hc.at_ (heap_alloc_new w (.cells #[_, _, _] 38)) (by simp)
  obtain ⟨q0, q1, q2⟩ := ce3 q
  have hz : w.heap.size < w1.heap.size := lt_of_cell q0
  have C1 := h_ (((Chg.refl [] w).alloc _).trans hc)
  clear hc q
  generalize w.heap.size = s at *
  go_wp2; go_ret
  exact ⟨rfl, C1.out.alloc _⟩
 ·
  refine go 2 (chkE_odd (by unfold Fine; omega)) ?_
  clear go
  have h' : ¬ k < 0 := by omega
  go_enter Tryz.func151, Tryz.ntmps151
  go_wp2_with fail
  refine (kinds_any _).mono ?_
  rintro e w1 ⟨rfl, hc⟩
  have q := hc.at_ (heap_alloc_new w (.cells #[_, _, _] 38)) (by simp)
  obtain ⟨q0, q1, q2⟩ := ce3 q
  have hz : w.heap.size < w1.heap.size := lt_of_cell q0
  have C1 := h_ (((Chg.refl [] w).alloc _).trans hc)
  clear hc q
  generalize w.heap.size = s at *
  go_wp2; go_ret
  exact ⟨rfl, C1.out.alloc _⟩
 ·
  refine go 2 (chkE_odd (by unfold Fine; omega)) ?_
  subst h; clear go
  go_enter Tryz.func151, Tryz.ntmps151
  go_wp2_with fail
  refine (kinds_any _).mono ?_
  rintro e w1 ⟨rfl, hc⟩
  have q := hc.at_ (heap_alloc_new w (.cells #[_, _, _] 38)) (by simp)
  obtain ⟨q0, q1, q2⟩ := ce3 q
  have hz : w.heap.size < w1.heap.size := lt_of_cell q0
  have C1 := h_ (((Chg.refl [] w).alloc _).trans hc)
  clear hc q
  generalize w.heap.size = s at *
  go_wp2; go_ret
  exact ⟨rfl, (C1.out.alloc _).alloc _⟩
 ·
  subst h
  by_cases m0 : m < 0
  ·
   refine go 2 (chkE_odd (by unfold Fine; omega)) ?_
   clear go
   go_enter Tryz.func151, Tryz.ntmps151
   go_wp2_with fail
   refine (kinds_any _).mono ?_
   rintro e w1 ⟨rfl, hc⟩
   have q := hc.at_ (heap_alloc_new w (.cells #[_, _, _] 38)) (by simp)
   obtain ⟨q0, q1, q2⟩ := ce3 q
   have hz : w.heap.size < w1.heap.size := lt_of_cell q0
   have C1 := h_ (((Chg.refl [] w).alloc _).trans hc)
   clear hc q
   generalize w.heap.size = s at *
   go_wp2; go_ret
   exact ⟨rfl, (C1.out.alloc _).alloc _⟩
  by_cases m1 : 511 < m
  ·
   refine go 2 (chkE_odd (by unfold Fine; omega)) ?_
   clear go
   go_enter Tryz.func151, Tryz.ntmps151
   go_wp2_with fail
   refine (kinds_any _).mono ?_
   rintro e w1 ⟨rfl, hc⟩
   have q := hc.at_ (heap_alloc_new w (.cells #[_, _, _] 38)) (by simp)
   obtain ⟨q0, q1, q2⟩ := ce3 q
   have hz : w.heap.size < w1.heap.size := lt_of_cell q0
   have C1 := h_ (((Chg.refl [] w).alloc _).trans hc)
   clear hc q
   generalize w.heap.size = s at *
   go_wp2; go_ret
   exact ⟨rfl, (C1.out.alloc _).alloc _⟩
  by_cases n1 : 1000 < n
  ·
   refine go 2 (chkE_odd (by unfold Fine; omega)) ?_
   clear go
   go_enter Tryz.func151, Tryz.ntmps151
   go_wp2_with fail
   refine (kinds_any _).mono ?_
   rintro e w1 ⟨rfl, hc⟩
   have q := hc.at_ (heap_alloc_new w (.cells #[_, _, _] 38)) (by simp)
   obtain ⟨q0, q1, q2⟩ := ce3 q
   have hz : w.heap.size < w1.heap.size := lt_of_cell q0
   have C1 := h_ (((Chg.refl [] w).alloc _).trans hc)
   clear hc q
   generalize w.heap.size = s at *
   go_wp2; go_ret
   exact ⟨rfl, (C1.out.alloc _).alloc _⟩
  ·
   refine go 0 (chkE_fine (by unfold Fine; omega)) ?_
   clear go
   go_enter Tryz.func151, Tryz.ntmps151
   go_wp2_with fail
   refine (kinds_any _).mono ?_
   rintro e w1 ⟨rfl, hc⟩
   have q := hc.at_ (heap_alloc_new w (.cells #[_, _, _] 38)) (by simp)
   obtain ⟨q0, q1, q2⟩ := ce3 q
   have hz : w.heap.size < w1.heap.size := lt_of_cell q0
   have C1 := h_ (((Chg.refl [] w).alloc _).trans hc)
   clear hc q
   generalize w.heap.size = s at *
   go_wp2; go_ret
   exact ⟨rfl, (C1.out.alloc _).alloc _⟩
 ·
  subst h
  by_cases m0 : m < 0
  ·
   refine go 2 (chkE_odd (by unfold Fine; omega)) ?_
   clear go
   go_enter Tryz.func151, Tryz.ntmps151
   go_wp2_with fail
   refine (kinds_any _).mono ?_
   rintro e w1 ⟨rfl, hc⟩
   have q := hc.at_ (heap_alloc_new w (.cells #[_, _, _] 38)) (by simp)
   obtain ⟨q0, q1, q2⟩ := ce3 q
   have hz : w.heap.size < w1.heap.size := lt_of_cell q0
   have C1 := h_ (((Chg.refl [] w).alloc _).trans hc)
   clear hc q
   generalize w.heap.size = s at *
   go_wp2; go_ret
   exact ⟨rfl, (C1.out.alloc _).alloc _⟩
  by_cases m1 : 511 < m
  ·
   refine go 2 (chkE_odd (by unfold Fine; omega)) ?_
   clear go
   go_enter Tryz.func151, Tryz.ntmps151
   go_wp2_with fail
   refine (kinds_any _).mono ?_
   rintro e w1 ⟨rfl, hc⟩
   have q := hc.at_ (heap_alloc_new w (.cells #[_, _, _] 38)) (by simp)
   obtain ⟨q0, q1, q2⟩ := ce3 q
   have hz : w.heap.size < w1.heap.size := lt_of_cell q0
   have C1 := h_ (((Chg.refl [] w).alloc _).trans hc)
   clear hc q
   generalize w.heap.size = s at *
   go_wp2; go_ret
   exact ⟨rfl, (C1.out.alloc _).alloc _⟩
  by_cases n1 : 0 < n
  ·
   refine go 2 (chkE_odd (by unfold Fine; omega)) ?_
   clear go
   go_enter Tryz.func151, Tryz.ntmps151
   go_wp2_with fail
   refine (kinds_any _).mono ?_
   rintro e w1 ⟨rfl, hc⟩
   have q := hc.at_ (heap_alloc_new w (.cells #[_, _, _] 38)) (by simp)
   obtain ⟨q0, q1, q2⟩ := ce3 q
   have hz : w.heap.size < w1.heap.size := lt_of_cell q0
   have C1 := h_ (((Chg.refl [] w).alloc _).trans hc)
   clear hc q
   generalize w.heap.size = s at *
   go_wp2; go_ret
   exact ⟨rfl, (C1.out.alloc _).alloc _⟩
  ·
   obtain rfl : n = 0 := by omega
   refine go 0 (chkE_fine (by unfold Fine; omega)) ?_
   clear go
   go_enter Tryz.func151, Tryz.ntmps151
   go_wp2_with fail
   refine (kinds_any _).mono ?_
   rintro e w1 ⟨rfl, hc⟩
   have q := hc.at_ (heap_alloc_new w (.cells #[_, _, _] 38)) (by simp)
   obtain ⟨q0, q1, q2⟩ := ce3 q
   have hz : w.heap.size < w1.heap.size := lt_of_cell q0
   have C1 := h_ (((Chg.refl [] w).alloc _).trans hc)
   clear hc q
   generalize w.heap.size = s at *
   go_wp2; go_ret
   exact ⟨rfl, (C1.out.alloc _).alloc _⟩
 ·
  subst h
  by_cases m0 : m < 0
  ·
   refine go 2 (chkE_odd (by unfold Fine; omega)) ?_
   clear go
   go_enter Tryz.func151, Tryz.ntmps151
   go_wp2_with fail
   refine (kinds_any _).mono ?_
   rintro e w1 ⟨rfl, hc⟩
   have q := hc.at_ (heap_alloc_new w (.cells #[_, _, _] 38)) (by simp)
   obtain ⟨q0, q1, q2⟩ := ce3 q
   have hz : w.heap.size < w1.heap.size := lt_of_cell q0
   have C1 := h_ (((Chg.refl [] w).alloc _).trans hc)
   clear hc q
   generalize w.heap.size = s at *
   go_wp2; go_ret
   exact ⟨rfl, (C1.out.alloc _).alloc _⟩
  by_cases m1 : 0 < m
  ·
   refine go 2 (chkE_odd (by unfold Fine; omega)) ?_
   clear go
   go_enter Tryz.func151, Tryz.ntmps151
   go_wp2_with fail
   refine (kinds_any _).mono ?_
   rintro e w1 ⟨rfl, hc⟩
   have q := hc.at_ (heap_alloc_new w (.cells #[_, _, _] 38)) (by simp)
   obtain ⟨q0, q1, q2⟩ := ce3 q
   have hz : w.heap.size < w1.heap.size := lt_of_cell q0
   have C1 := h_ (((Chg.refl [] w).alloc _).trans hc)
   clear hc q
   generalize w.heap.size = s at *
   go_wp2; go_ret
   exact ⟨rfl, (C1.out.alloc _).alloc _⟩
  obtain rfl : m = 0 := by omega
  by_cases n1 : 0 < n
  ·
   refine go 2 (chkE_odd (by unfold Fine; omega)) ?_
   clear go
   go_enter Tryz.func151, Tryz.ntmps151
   go_wp2_with fail
   refine (kinds_any _).mono ?_
   rintro e w1 ⟨rfl, hc⟩
   have q := hc.at_ (heap_alloc_new w (.cells #[_, _, _] 38)) (by simp)
   obtain ⟨q0, q1, q2⟩ := ce3 q
   have hz : w.heap.size < w1.heap.size := lt_of_cell q0
   have C1 := h_ (((Chg.refl [] w).alloc _).trans hc)
   clear hc q
   generalize w.heap.size = s at *
   go_wp2; go_ret
   exact ⟨rfl, (C1.out.alloc _).alloc _⟩
  ·
   obtain rfl : n = 0 := by omega
   refine go 0 (chkE_fine (by unfold Fine; omega)) ?_
   clear go
   go_enter Tryz.func151, Tryz.ntmps151
   go_wp2_with fail
   refine (kinds_any _).mono ?_
   rintro e w1 ⟨rfl, hc⟩
   have q := hc.at_ (heap_alloc_new w (.cells #[_, _, _] 38)) (by simp)
   obtain ⟨q0, q1, q2⟩ := ce3 q
   have hz : w.heap.size < w1.heap.size := lt_of_cell q0
   have C1 := h_ (((Chg.refl [] w).alloc _).trans hc)
   clear hc q
   generalize w.heap.size = s at *
   go_wp2; go_ret
   exact ⟨rfl, (C1.out.alloc _).alloc _⟩
end
section
open Go.RowKit Go.Lib


def FineS (n f t : Int) : Prop := 1 ≤ n ∧ n ≤ 200 ∧ 1 ≤ f ∧ f ≤ t ∧ t ≤ 2147483647
instance (n f t : Int) : Decidable (FineS n f t) := by unfold FineS; exact inferInstance
def ApartS (n t m g : Int) : Prop := n < m ∨ n = m ∧ t + 1 < g
instance (n t m g : Int) : Decidable (ApartS n t m g) := by unfold ApartS; exact inferInstance
def okFrom : Option (Int × Int × Int) → List (Int × Int × Int) → Bool
 | _, [] => true
 | none, x :: l => decide (FineS x.1 x.2.1 x.2.2) && okFrom (some x) l
 | some y, x :: l => decide (FineS x.1 x.2.1 x.2.2) && decide (ApartS y.1 y.2.2 x.1 x.2.1) && okFrom (some x) l
def chkS (xs : List (Int × Int × Int)) : Int := if xs.length ≤ 4000 ∧ okFrom none xs = true then 0 else 2
def prevS (xs : List (Int × Int × Int)) (k : Nat) : Option (Int × Int × Int) := if k = 0 then none else xs[k - 1]?
theorem okFrom_next (xs : List (Int × Int × Int)) (k : Nat) (x : Int × Int × Int) (hx : xs[k]? = some x) :
  okFrom (prevS xs k) (xs.drop k) = (decide (FineS x.1 x.2.1 x.2.2) && (match prevS xs k with | none => true | some y => decide (ApartS y.1 y.2.2 x.1 x.2.1)) && okFrom (prevS xs (k + 1)) (xs.drop (k + 1))) := by
 obtain ⟨hk, rfl⟩ := List.getElem?_eq_some_iff.1 hx
 rw [List.drop_eq_getElem_cons hk]
 have e : prevS xs (k + 1) = some xs[k] := by unfold prevS; rw [if_neg (by omega)]; exact List.getElem?_eq_getElem hk
 rw [e]
 cases prevS xs k <;> simp [okFrom]

theorem stands_any (w : World) (n f t : Int) : Calls Tryz.prog 115 #[.agg #[.int .i64 n, .int .i64 f, .int .i64 t]] w fun e w' => e = .returned (.bool (decide (FineS n f t))) ∧ Chg [] w w' := by
 have go : ∀ v, decide (FineS n f t) = v → Calls Tryz.prog 115 #[.agg #[.int .i64 n, .int .i64 f, .int .i64 t]] w (fun e w' => e = .returned (.bool v) ∧ Chg [] w w') → Calls Tryz.prog 115 #[.agg #[.int .i64 n, .int .i64 f, .int .i64 t]] w fun e w' => e = .returned (.bool (decide (FineS n f t))) ∧ Chg [] w w' := fun v hv h => hv ▸ h
 by_cases h : FineS n f t
 ·
  refine go true (decide_eq_true h) ?_
  obtain ⟨h1, h2, h3, h4, h5⟩ := h
  clear go
  go_enter Tryz.func115, Tryz.ntmps115
  go_wp2; go_ret
  exact ⟨rfl, (Chg.refl _ _).alloc _⟩
 ·
  refine go false (decide_eq_false h) ?_
  unfold FineS at h
  by_cases h1 : 1 ≤ n
  rotate_left
  ·
   clear h; clear go
   go_enter Tryz.func115, Tryz.ntmps115
   go_wp2; go_ret
   exact ⟨rfl, (Chg.refl _ _).alloc _⟩
  by_cases h2 : n ≤ 200
  rotate_left
  ·
   clear h; clear go
   go_enter Tryz.func115, Tryz.ntmps115
   go_wp2; go_ret
   exact ⟨rfl, (Chg.refl _ _).alloc _⟩
  by_cases h3 : 1 ≤ f
  rotate_left
  ·
   clear h; clear go
   go_enter Tryz.func115, Tryz.ntmps115
   go_wp2; go_ret
   exact ⟨rfl, (Chg.refl _ _).alloc _⟩
  by_cases h4 : f ≤ t
  rotate_left
  ·
   clear h; clear go
   go_enter Tryz.func115, Tryz.ntmps115
   go_wp2; go_ret
   exact ⟨rfl, (Chg.refl _ _).alloc _⟩
  have h5 : ¬ t ≤ 2147483647 := by omega
  clear h; clear go
  go_enter Tryz.func115, Tryz.ntmps115
  go_wp2; go_ret
  exact ⟨rfl, (Chg.refl _ _).alloc _⟩
theorem apart_any (w : World) (n f t m g u : Int) (ht : -2147483648 ≤ t) (ht2 : t ≤ 2147483647) : Calls Tryz.prog 116 #[.agg #[.int .i64 n, .int .i64 f, .int .i64 t], .agg #[.int .i64 m, .int .i64 g, .int .i64 u]] w fun e w' => e = .returned (.bool (decide (ApartS n t m g))) ∧ Chg [] w w' := by
 have go : ∀ v, decide (ApartS n t m g) = v → Calls Tryz.prog 116 #[.agg #[.int .i64 n, .int .i64 f, .int .i64 t], .agg #[.int .i64 m, .int .i64 g, .int .i64 u]] w (fun e w' => e = .returned (.bool v) ∧ Chg [] w w') → Calls Tryz.prog 116 #[.agg #[.int .i64 n, .int .i64 f, .int .i64 t], .agg #[.int .i64 m, .int .i64 g, .int .i64 u]] w fun e w' => e = .returned (.bool (decide (ApartS n t m g))) ∧ Chg [] w w' := fun v hv h => hv ▸ h
 have wr : IntKind.i64.wrap (t + 1) = t + 1 := IntWalk.i64_in _ (by omega)
 by_cases h1 : n < m
 ·
  refine go true (decide_eq_true (.inl h1)) ?_
  clear go
  go_enter Tryz.func116, Tryz.ntmps116
  go_wp2; go_ret
  exact ⟨rfl, ((Chg.refl _ _).alloc _).alloc _⟩
 by_cases h2 : n = m
 rotate_left
 ·
  refine go false (decide_eq_false (by unfold ApartS; omega)) ?_
  clear go
  go_enter Tryz.func116, Tryz.ntmps116
  go_wp2; go_ret
  exact ⟨rfl, ((Chg.refl _ _).alloc _).alloc _⟩
 by_cases h3 : t + 1 < g
 ·
  refine go true (decide_eq_true (.inr ⟨h2, h3⟩)) ?_
  subst h2; clear go
  go_enter Tryz.func116, Tryz.ntmps116
  go_wp2; go_ret
  exact ⟨rfl, ((Chg.refl _ _).alloc _).alloc _⟩
 ·
  refine go false (decide_eq_false (by unfold ApartS; omega)) ?_
  subst h2; clear go
  go_enter Tryz.func116, Tryz.ntmps116
  go_wp2; go_ret
  exact ⟨rfl, ((Chg.refl _ _).alloc _).alloc _⟩
end
section
open Go.RowKit Go.Lib



set_option maxRecDepth 100000 in
theorem pacheck_any (w : World) (A : Option Addr) (n c : Nat) (xs : List (Int × Int × Int)) (h : RdK spanTy w A n xs) (hn : n ≤ 140737488351232) : Calls Tryz.prog 67 #[.slice A n c] w fun e w' => e = .returned (.int .i64 (chkS xs)) ∧ Chg [] w w' := by
 have go : ∀ v, chkS xs = v → Calls Tryz.prog 67 #[.slice A n c] w (fun e w' => e = .returned (.int .i64 v) ∧ Chg [] w w') → Calls Tryz.prog 67 #[.slice A n c] w fun e w' => e = .returned (.int .i64 (chkS xs)) ∧ Chg [] w w' := fun v hv h => hv ▸ h
 have hl := h.len
 subst hl
 by_cases hbig : 4000 < xs.length
 ·
  refine go 2 (if_neg (by omega)) ?_
  clear go h
  go_enter Tryz.func67, Tryz.ntmps67
  go_wp2; go_ret
  exact ⟨rfl, Chg.refl _ _⟩
 ·
  skip
  have HX := h_ h
  have hV : chkS xs = if okFrom none xs = true then 0 else 2 := by unfold chkS; by_cases ho : okFrom none xs = true <;> simp [ho] <;> omega
  have HV := h_ hV
  clear h go
  generalize chkS xs = V at *
  clear hV
  go_enter Tryz.func67, Tryz.ntmps67
  go_wp2
  go_loopw [10] (fun i wr => ∃ (k : Nat), k ≤ xs.length ∧ i = .int .i64 k ∧ Hid (Chg [] w wr ∧ okFrom none xs = okFrom (prevS xs k) (xs.drop k) ∧ ∀ y, prevS xs k = some y → FineS y.1 y.2.1 y.2.2)) (fun i _ => xs.length - (RowKit.intOf i).toNat)
  case atStart => exact ⟨0, Nat.zero_le _, rfl, Chg.refl _ _, rfl, by unfold prevS; simp⟩
  case round =>
   obtain ⟨k, hk, rfl, HI⟩ := hrel
   generalize wr = w1 at *
   clear wr
   by_cases hlt : k < xs.length
   ·
    skip
    obtain ⟨g, o, eA, _⟩ := HX.out.line (by omega)
    subst eA
    have ex := List.getElem?_eq_getElem hlt
    generalize xs[k] = x at *
    have EX := h_ ex
    have hok := okFrom_next xs k x ex
    have HOK := h_ (HI.out.2.1.trans hok)
    clear ex hok
    have i0 : (0 : Int) ≤ (k : Int) := by omega
    have i1 : (k : Int) < (xs.length : Int) := by omega
    have hcc := spanCells (HX.out.chg HI.out.1 (by simp)) EX.out
    obtain ⟨p0, p1, p2⟩ := hcc
    have CW := h_ HI.out.1
    obtain ⟨w2, hw2, cw2, b_B0⟩ := news1 w1 (.cells #[.int .i64 x.1, .int .i64 x.2.1, .int .i64 x.2.2] 81)
    have Ww2 := h_ hw2
    have l_B0 := lt_of_heap b_B0
    replace CW := h_ (CW.out.trans cw2)
    have B0 := h_ (b_B0)
    clear hw2 cw2 b_B0; skip
    go_upto_region 6 with fail
    rw [← Ww2.out]
    generalize w1.heap.size = b at *
    clear Ww2
    have hc0 : ∀ w', Chg [] w2 w' → w'.cell? ⟨b, 0, none⟩ = some (.int .i64 x.1) ∧ w'.cell? ⟨b, 1, none⟩ = some (.int .i64 x.2.1) ∧ w'.cell? ⟨b, 2, none⟩ = some (.int .i64 x.2.2) := by
     intro w' hc
     have b1 := hc.at_ B0.out (by simp)
     exact ⟨cell_of b1 0, cell_of b1 1, cell_of b1 2⟩
    have HC0 := h_ hc0
    clear hc0
    have LS := h_ (fun w => stands_any w x.1 x.2.1 x.2.2)
    by_cases hf : FineS x.1 x.2.1 x.2.2
    ·
     have hd : decide (FineS x.1 x.2.1 x.2.2) = true := decide_eq_true hf
     have HFN := h_ hf
     rw [hd] at LS HOK
     clear hd hf
     by_cases h0 : k = 0
     ·
      subst h0
      refine wp_region_held_drew (S := fun w' => Chg [] w2 w') (by kernel_rfl) (Chg.refl [] w2).drew (fun hHeld => ?_)
      refine step_yes 0 15 ?_ (by assumption) rfl rfl (by kernel_rfl) (by kernel_rfl) (by kernel_rfl) (fun _ _ _ h => h) (by rfl) ?_ ?_
      rotate_left
      ·
       (intro w hSw; (try dsimp only at hSw); have hq := HC0.out _ hSw; obtain ⟨q0, q1, q2⟩ := hq; go_simp; try with_reducible rfl)
      try simp only [Act.put, sA, s0, s1]
      refine on1 1 rfl (fun K hK => ?_)
      go_simp
      refine (LS.out _).mono ?_
      rintro e w9 ⟨rfl, hc⟩
      have C9 := h_ (hHeld.trans hc)
      clear hc hHeld
      refine hK.out _ _ C9.out (fun hHeld => ?_)
      clear hK K; try simp only [Act.put, sA, s0, s1]
      refine step_yes 2 17 ?_ (by assumption) rfl rfl (by kernel_rfl) (by kernel_rfl) (by kernel_rfl) (fun _ _ _ h => h) (by rfl) ?_ ?_
      rotate_left
      ·
       (intro w hSw; (try dsimp only at hSw); go_simp; try with_reducible rfl)
      try simp only [Act.put, sA, s0, s1]
      refine step_yes 3 18 ?_ (by assumption) rfl rfl (by kernel_rfl) (by kernel_rfl) (by kernel_rfl) (fun _ _ _ h => h) (by rfl) ?_ ?_
      rotate_left
      ·
       (intro w hSw; (try dsimp only at hSw); go_simp; try with_reducible rfl)
      try simp only [Act.put, sA, s0, s1]
      refine step_yes 4 19 ?_ (by assumption) rfl rfl (by kernel_rfl) (by kernel_rfl) (by kernel_rfl) (fun _ _ _ h => h) (by rfl) ?_ ?_
      rotate_left
      ·
       (intro w hSw; (try dsimp only at hSw); go_simp; try with_reducible rfl)
      try simp only [Act.put, sA, s0, s1]
      refine step_yes 5 20 ?_ (by assumption) rfl rfl (by kernel_rfl) (by kernel_rfl) (by kernel_rfl) (fun _ _ _ h => h) (by rfl) ?_ ?_
      rotate_left
      ·
       (intro w hSw; (try dsimp only at hSw); go_simp; try with_reducible rfl)
      try simp only [Act.put, sA, s0, s1]
      refine step_yes 6 21 ?_ (by assumption) rfl rfl (by kernel_rfl) (by kernel_rfl) (by kernel_rfl) (fun _ _ _ h => h) (by rfl) ?_ ?_
      rotate_left
      ·
       (intro w hSw; (try dsimp only at hSw); go_simp; try with_reducible rfl)
      try simp only [Act.put, sA, s0, s1]
      refine step_no 7 22 (by assumption) rfl rfl (by kernel_rfl) (by kernel_rfl) (by kernel_rfl) (fun _ _ _ h => h) (by rfl) ?_
      try simp only [Act.put, sA, s0, s1]
      refine step_no 8 23 (by assumption) rfl rfl (by kernel_rfl) (by kernel_rfl) (by kernel_rfl) (fun _ _ _ h => h) (by rfl) ?_
      try simp only [Act.put, sA, s0, s1]
      refine step_no 9 24 (by assumption) rfl rfl (by kernel_rfl) (by kernel_rfl) (by kernel_rfl) (fun _ _ _ h => h) (by rfl) ?_
      try simp only [Act.put, sA, s0, s1]
      refine step_no 10 25 (by assumption) rfl rfl (by kernel_rfl) (by kernel_rfl) (by kernel_rfl) (fun _ _ _ h => h) (by rfl) ?_
      try simp only [Act.put, sA, s0, s1]
      refine step_no 11 26 (by assumption) rfl rfl (by kernel_rfl) (by kernel_rfl) (by kernel_rfl) (fun _ _ _ h => h) (by rfl) ?_
      try simp only [Act.put, sA, s0, s1]
      refine step_no 12 27 (by assumption) rfl rfl (by kernel_rfl) (by kernel_rfl) (by kernel_rfl) (fun _ _ _ h => h) (by rfl) ?_
      try simp only [Act.put, sA, s0, s1]
      refine step_no 13 28 (by assumption) rfl rfl (by kernel_rfl) (by kernel_rfl) (by kernel_rfl) (fun _ _ _ h => h) (by rfl) ?_
      try simp only [Act.put, sA, s0, s1]
      refine step_no 14 29 (by assumption) rfl rfl (by kernel_rfl) (by kernel_rfl) (by kernel_rfl) (fun _ _ _ h => h) (by rfl) ?_
      try simp only [Act.put, sA, s0, s1]
      refine step_yes 15 30 ?_ (by assumption) rfl rfl (by kernel_rfl) (by kernel_rfl) (by kernel_rfl) (fun _ _ _ h => h) (by rfl) ?_ ?_
      rotate_left
      ·
       (intro w hSw; (try dsimp only at hSw); go_simp; try with_reducible rfl)
      try simp only [Act.put, sA, s0, s1]
      refine step_yes 16 31 ?_ (by assumption) rfl rfl (by kernel_rfl) (by kernel_rfl) (by kernel_rfl) (fun _ _ _ h => h) (by rfl) ?_ ?_
      rotate_left
      ·
       (intro w hSw; (try dsimp only at hSw); go_simp; try with_reducible rfl)
      try simp only [Act.put, sA, s0, s1]
      refine wpAnyH_done (by kernel_rfl) ?_ _; go_wp2
      have e1 : prevS xs (0 + 1) = some x := by unfold prevS; rw [if_neg (by omega)]; exact EX.out
      have CE := h_ (CW.out.trans C9.out)
      refine ⟨⟨0 + 1, by omega, by simp, CE.out, ?_, ?_⟩, by simp [RowKit.intOf]; omega⟩
      ·
       rw [HOK.out]; simp [prevS]
      ·
       rw [e1]; rintro y ⟨⟩; exact HFN.out
     ·
      have hk1 : k - 1 < xs.length := by omega
      have ey := List.getElem?_eq_getElem hk1
      generalize xs[k - 1] = y at *
      have ep : prevS xs k = some y := by unfold prevS; rw [if_neg h0]; exact ey
      have EY := h_ ey
      have HFY := h_ (HI.out.2.2 y ep)
      rw [ep] at HOK
      dsimp only at HOK
      clear ey ep
      have hy0 : ∀ w', Chg [] w2 w' → w'.cell? ⟨g, o + (k - 1) * 3, none⟩ = some (.int .i64 y.1) ∧ w'.cell? ⟨g, o + (k - 1) * 3 + 1, none⟩ = some (.int .i64 y.2.1) ∧ w'.cell? ⟨g, o + (k - 1) * 3 + 2, none⟩ = some (.int .i64 y.2.2) := fun w' hc => spanCells (HX.out.chg (CW.out.trans hc) (by simp)) EY.out
      have HY0 := h_ hy0
      clear hy0
      have LA := h_ (fun w => apart_any w y.1 y.2.1 y.2.2 x.1 x.2.1 x.2.2 (by have := HFY.out; unfold FineS at this; omega) (by have := HFY.out; unfold FineS at this; omega))
      have hk2 : ((k : Int) - 1) = ((k - 1 : Nat) : Int) := by omega
      have hk3 : (0 : Int) < (k : Int) := by omega
      have hk4 : ((k - 1 : Nat) : Int) < (xs.length : Int) := by omega
      have hk5 : (0 : Int) ≤ ((k - 1 : Nat) : Int) := by omega
      have hk6 : IntKind.i64.wrap ((k - 1 : Nat) : Int) = ((k - 1 : Nat) : Int) := IntWalk.i64_in _ (by omega)
      have hk7 : decide (0 < k) = true := by simp; omega
      refine (Bool.eq_false_or_eq_true (decide (ApartS y.1 y.2.2 x.1 x.2.1))).elim (fun hA => ?AT) (fun hA => ?AF)
      case AT =>
       rw [hA] at LA HOK
       clear hA
       refine wp_region_held_drew (S := fun w' => Chg [] w2 w') (by kernel_rfl) (Chg.refl [] w2).drew (fun hHeld => ?_)
       refine step_yes 0 15 ?_ (by assumption) rfl rfl (by kernel_rfl) (by kernel_rfl) (by kernel_rfl) (fun _ _ _ h => h) (by rfl) ?_ ?_
       rotate_left
       ·
        (intro w hSw; (try dsimp only at hSw); have hq := HC0.out _ hSw; obtain ⟨q0, q1, q2⟩ := hq; go_simp; try with_reducible rfl)
       try simp only [Act.put, sA, s0, s1]
       refine on1 1 rfl (fun K hK => ?_)
       go_simp
       refine (LS.out _).mono ?_
       rintro e w9 ⟨rfl, hc⟩
       have C9 := h_ (hHeld.trans hc)
       clear hc hHeld
       refine hK.out _ _ C9.out (fun hHeld => ?_)
       clear hK K; try simp only [Act.put, sA, s0, s1]
       refine step_yes 2 17 ?_ (by assumption) rfl rfl (by kernel_rfl) (by kernel_rfl) (by kernel_rfl) (fun _ _ _ h => h) (by rfl) ?_ ?_
       rotate_left
       ·
        (intro w hSw; (try dsimp only at hSw); go_simp; try with_reducible rfl)
       try simp only [Act.put, sA, s0, s1]
       refine step_yes 3 18 ?_ (by assumption) rfl rfl (by kernel_rfl) (by kernel_rfl) (by kernel_rfl) (fun _ _ _ h => h) (by rfl) ?_ ?_
       rotate_left
       ·
        (intro w hSw; (try dsimp only at hSw); go_simp; try with_reducible rfl)
       try simp only [Act.put, sA, s0, s1]
       refine step_yes 4 19 ?_ (by assumption) rfl rfl (by kernel_rfl) (by kernel_rfl) (by kernel_rfl) (fun _ _ _ h => h) (by rfl) ?_ ?_
       rotate_left
       ·
        (intro w hSw; (try dsimp only at hSw); go_simp; try with_reducible rfl)
       try simp only [Act.put, sA, s0, s1]
       refine step_yes 5 20 ?_ (by assumption) rfl rfl (by kernel_rfl) (by kernel_rfl) (by kernel_rfl) (fun _ _ _ h => h) (by rfl) ?_ ?_
       rotate_left
       ·
        (intro w hSw; (try dsimp only at hSw); go_simp; try with_reducible rfl)
       try simp only [Act.put, sA, s0, s1]
       refine step_yes 6 21 ?_ (by assumption) rfl rfl (by kernel_rfl) (by kernel_rfl) (by kernel_rfl) (fun _ _ _ h => h) (by rfl) ?_ ?_
       rotate_left
       ·
        (intro w hSw; (try dsimp only at hSw); go_simp; try with_reducible rfl)
       try simp only [Act.put, sA, s0, s1]
       refine step_yes 7 22 ?_ (by assumption) rfl rfl (by kernel_rfl) (by kernel_rfl) (by kernel_rfl) (fun _ _ _ h => h) (by rfl) ?_ ?_
       rotate_left
       ·
        (intro w hSw; (try dsimp only at hSw); go_simp; try with_reducible rfl)
       try simp only [Act.put, sA, s0, s1]
       refine step_yes 8 23 ?_ (by assumption) rfl rfl (by kernel_rfl) (by kernel_rfl) (by kernel_rfl) (fun _ _ _ h => h) (by rfl) ?_ ?_
       rotate_left
       ·
        (intro w hSw; (try dsimp only at hSw); go_simp; try with_reducible rfl)
       try simp only [Act.put, sA, s0, s1]
       refine step_yes 9 24 ?_ (by assumption) rfl rfl (by kernel_rfl) (by kernel_rfl) (by kernel_rfl) (fun _ _ _ h => h) (by rfl) ?_ ?_
       rotate_left
       ·
        (intro w hSw; (try dsimp only at hSw); go_simp; try with_reducible rfl)
       try simp only [Act.put, sA, s0, s1]
       refine step_yes 10 25 ?_ (by assumption) rfl rfl (by kernel_rfl) (by kernel_rfl) (by kernel_rfl) (fun _ _ _ h => h) (by rfl) ?_ ?_
       rotate_left
       ·
        (intro w hSw; (try dsimp only at hSw); go_simp; try with_reducible rfl)
       try simp only [Act.put, sA, s0, s1]
       refine step_yes 11 26 ?_ (by assumption) rfl rfl (by kernel_rfl) (by kernel_rfl) (by kernel_rfl) (fun _ _ _ h => h) (by rfl) ?_ ?_
       rotate_left
       ·
        (intro w hSw; (try dsimp only at hSw); have hq := HY0.out _ hSw; obtain ⟨q0, q1, q2⟩ := hq; go_simp; try with_reducible rfl)
       try simp only [Act.put, sA, s0, s1]
       refine step_yes 12 27 ?_ (by assumption) rfl rfl (by kernel_rfl) (by kernel_rfl) (by kernel_rfl) (fun _ _ _ h => h) (by rfl) ?_ ?_
       rotate_left
       ·
        (intro w hSw; (try dsimp only at hSw); have hq := HC0.out _ hSw; obtain ⟨q0, q1, q2⟩ := hq; go_simp; try with_reducible rfl)
       try simp only [Act.put, sA, s0, s1]
       refine on1 13 rfl (fun K hK => ?_)
       go_simp
       refine (LA.out _).mono ?_
       rintro e v9 ⟨rfl, hc⟩
       have D9 := h_ (C9.out.trans hc)
       clear hc C9; have C9 := D9; clear D9
       refine hK.out _ _ C9.out (fun hHeld => ?_)
       clear hK K; try simp only [Act.put, sA, s0, s1]
       refine step_yes 14 29 ?_ (by assumption) rfl rfl (by kernel_rfl) (by kernel_rfl) (by kernel_rfl) (fun _ _ _ h => h) (by rfl) ?_ ?_
       rotate_left
       ·
        (intro w hSw; (try dsimp only at hSw); go_simp; try with_reducible rfl)
       try simp only [Act.put, sA, s0, s1]
       refine step_yes 15 30 ?_ (by assumption) rfl rfl (by kernel_rfl) (by kernel_rfl) (by kernel_rfl) (fun _ _ _ h => h) (by rfl) ?_ ?_
       rotate_left
       ·
        (intro w hSw; (try dsimp only at hSw); go_simp; try with_reducible rfl)
       try simp only [Act.put, sA, s0, s1]
       refine step_yes 16 31 ?_ (by assumption) rfl rfl (by kernel_rfl) (by kernel_rfl) (by kernel_rfl) (fun _ _ _ h => h) (by rfl) ?_ ?_
       rotate_left
       ·
        (intro w hSw; (try dsimp only at hSw); go_simp; try with_reducible rfl)
       try simp only [Act.put, sA, s0, s1]
       refine wpAnyH_done (by kernel_rfl) ?_ _; go_wp2
       have e1 : prevS xs (k + 1) = some x := by unfold prevS; rw [if_neg (by omega)]; exact EX.out
       have CE := h_ (CW.out.trans C9.out)
       refine ⟨⟨k + 1, by omega, by simp, CE.out, ?_, ?_⟩, by simp [RowKit.intOf]; omega⟩
       ·
        rw [HOK.out]; simp [e1]
       ·
        rw [e1]; rintro y ⟨⟩; exact HFN.out
      case AF =>
       rw [hA] at LA HOK
       clear hA
       refine wp_region_held_drew (S := fun w' => Chg [] w2 w') (by kernel_rfl) (Chg.refl [] w2).drew (fun hHeld => ?_)
       refine step_yes 0 15 ?_ (by assumption) rfl rfl (by kernel_rfl) (by kernel_rfl) (by kernel_rfl) (fun _ _ _ h => h) (by rfl) ?_ ?_
       rotate_left
       ·
        (intro w hSw; (try dsimp only at hSw); have hq := HC0.out _ hSw; obtain ⟨q0, q1, q2⟩ := hq; go_simp; try with_reducible rfl)
       try simp only [Act.put, sA, s0, s1]
       refine on1 1 rfl (fun K hK => ?_)
       go_simp
       refine (LS.out _).mono ?_
       rintro e w9 ⟨rfl, hc⟩
       have C9 := h_ (hHeld.trans hc)
       clear hc hHeld
       refine hK.out _ _ C9.out (fun hHeld => ?_)
       clear hK K; try simp only [Act.put, sA, s0, s1]
       refine step_yes 2 17 ?_ (by assumption) rfl rfl (by kernel_rfl) (by kernel_rfl) (by kernel_rfl) (fun _ _ _ h => h) (by rfl) ?_ ?_
       rotate_left
       ·
        (intro w hSw; (try dsimp only at hSw); go_simp; try with_reducible rfl)
       try simp only [Act.put, sA, s0, s1]
       refine step_yes 3 18 ?_ (by assumption) rfl rfl (by kernel_rfl) (by kernel_rfl) (by kernel_rfl) (fun _ _ _ h => h) (by rfl) ?_ ?_
       rotate_left
       ·
        (intro w hSw; (try dsimp only at hSw); go_simp; try with_reducible rfl)
       try simp only [Act.put, sA, s0, s1]
       refine step_yes 4 19 ?_ (by assumption) rfl rfl (by kernel_rfl) (by kernel_rfl) (by kernel_rfl) (fun _ _ _ h => h) (by rfl) ?_ ?_
       rotate_left
       ·
        (intro w hSw; (try dsimp only at hSw); go_simp; try with_reducible rfl)
       try simp only [Act.put, sA, s0, s1]
       refine step_yes 5 20 ?_ (by assumption) rfl rfl (by kernel_rfl) (by kernel_rfl) (by kernel_rfl) (fun _ _ _ h => h) (by rfl) ?_ ?_
       rotate_left
       ·
        (intro w hSw; (try dsimp only at hSw); go_simp; try with_reducible rfl)
       try simp only [Act.put, sA, s0, s1]
       refine step_yes 6 21 ?_ (by assumption) rfl rfl (by kernel_rfl) (by kernel_rfl) (by kernel_rfl) (fun _ _ _ h => h) (by rfl) ?_ ?_
       rotate_left
       ·
        (intro w hSw; (try dsimp only at hSw); go_simp; try with_reducible rfl)
       try simp only [Act.put, sA, s0, s1]
       refine step_yes 7 22 ?_ (by assumption) rfl rfl (by kernel_rfl) (by kernel_rfl) (by kernel_rfl) (fun _ _ _ h => h) (by rfl) ?_ ?_
       rotate_left
       ·
        (intro w hSw; (try dsimp only at hSw); go_simp; try with_reducible rfl)
       try simp only [Act.put, sA, s0, s1]
       refine step_yes 8 23 ?_ (by assumption) rfl rfl (by kernel_rfl) (by kernel_rfl) (by kernel_rfl) (fun _ _ _ h => h) (by rfl) ?_ ?_
       rotate_left
       ·
        (intro w hSw; (try dsimp only at hSw); go_simp; try with_reducible rfl)
       try simp only [Act.put, sA, s0, s1]
       refine step_yes 9 24 ?_ (by assumption) rfl rfl (by kernel_rfl) (by kernel_rfl) (by kernel_rfl) (fun _ _ _ h => h) (by rfl) ?_ ?_
       rotate_left
       ·
        (intro w hSw; (try dsimp only at hSw); go_simp; try with_reducible rfl)
       try simp only [Act.put, sA, s0, s1]
       refine step_yes 10 25 ?_ (by assumption) rfl rfl (by kernel_rfl) (by kernel_rfl) (by kernel_rfl) (fun _ _ _ h => h) (by rfl) ?_ ?_
       rotate_left
       ·
        (intro w hSw; (try dsimp only at hSw); go_simp; try with_reducible rfl)
       try simp only [Act.put, sA, s0, s1]
       refine step_yes 11 26 ?_ (by assumption) rfl rfl (by kernel_rfl) (by kernel_rfl) (by kernel_rfl) (fun _ _ _ h => h) (by rfl) ?_ ?_
       rotate_left
       ·
        (intro w hSw; (try dsimp only at hSw); have hq := HY0.out _ hSw; obtain ⟨q0, q1, q2⟩ := hq; go_simp; try with_reducible rfl)
       try simp only [Act.put, sA, s0, s1]
       refine step_yes 12 27 ?_ (by assumption) rfl rfl (by kernel_rfl) (by kernel_rfl) (by kernel_rfl) (fun _ _ _ h => h) (by rfl) ?_ ?_
       rotate_left
       ·
        (intro w hSw; (try dsimp only at hSw); have hq := HC0.out _ hSw; obtain ⟨q0, q1, q2⟩ := hq; go_simp; try with_reducible rfl)
       try simp only [Act.put, sA, s0, s1]
       refine on1 13 rfl (fun K hK => ?_)
       go_simp
       refine (LA.out _).mono ?_
       rintro e v9 ⟨rfl, hc⟩
       have D9 := h_ (C9.out.trans hc)
       clear hc C9; have C9 := D9; clear D9
       refine hK.out _ _ C9.out (fun hHeld => ?_)
       clear hK K; try simp only [Act.put, sA, s0, s1]
       refine step_yes 14 29 ?_ (by assumption) rfl rfl (by kernel_rfl) (by kernel_rfl) (by kernel_rfl) (fun _ _ _ h => h) (by rfl) ?_ ?_
       rotate_left
       ·
        (intro w hSw; (try dsimp only at hSw); go_simp; try with_reducible rfl)
       try simp only [Act.put, sA, s0, s1]
       refine step_yes 15 30 ?_ (by assumption) rfl rfl (by kernel_rfl) (by kernel_rfl) (by kernel_rfl) (fun _ _ _ h => h) (by rfl) ?_ ?_
       rotate_left
       ·
        (intro w hSw; (try dsimp only at hSw); go_simp; try with_reducible rfl)
       try simp only [Act.put, sA, s0, s1]
       refine step_yes 16 31 ?_ (by assumption) rfl rfl (by kernel_rfl) (by kernel_rfl) (by kernel_rfl) (fun _ _ _ h => h) (by rfl) ?_ ?_
       rotate_left
       ·
        (intro w hSw; (try dsimp only at hSw); go_simp; try with_reducible rfl)
       try simp only [Act.put, sA, s0, s1]
       have hv2 : ¬ okFrom none xs = true := by rw [HOK.out]; simp
       have HV2 : V = 2 := HV.out.trans (if_neg hv2)
       subst HV2; clear hv2; refine wpAnyH_done (by kernel_rfl) ?_ _
       have CE := h_ (CW.out.trans C9.out)
       go_wp2; go_ret
       exact ⟨rfl, CE.out⟩
    ·
     have hd : decide (FineS x.1 x.2.1 x.2.2) = false := decide_eq_false hf
     rw [hd] at LS HOK
     clear hd hf
     refine wp_region_held_drew (S := fun w' => Chg [] w2 w') (by kernel_rfl) (Chg.refl [] w2).drew (fun hHeld => ?_)
     refine step_yes 0 15 ?_ (by assumption) rfl rfl (by kernel_rfl) (by kernel_rfl) (by kernel_rfl) (fun _ _ _ h => h) (by rfl) ?_ ?_
     rotate_left
     ·
      (intro w hSw; (try dsimp only at hSw); have hq := HC0.out _ hSw; obtain ⟨q0, q1, q2⟩ := hq; go_simp; try with_reducible rfl)
     try simp only [Act.put, sA, s0, s1]
     refine on1 1 rfl (fun K hK => ?_)
     go_simp
     refine (LS.out _).mono ?_
     rintro e w9 ⟨rfl, hc⟩
     have C9 := h_ (hHeld.trans hc)
     clear hc hHeld
     refine hK.out _ _ C9.out (fun hHeld => ?_)
     clear hK K; try simp only [Act.put, sA, s0, s1]
     refine step_yes 2 17 ?_ (by assumption) rfl rfl (by kernel_rfl) (by kernel_rfl) (by kernel_rfl) (fun _ _ _ h => h) (by rfl) ?_ ?_
     rotate_left
     ·
      (intro w hSw; (try dsimp only at hSw); go_simp; try with_reducible rfl)
     try simp only [Act.put, sA, s0, s1]
     refine step_yes 3 18 ?_ (by assumption) rfl rfl (by kernel_rfl) (by kernel_rfl) (by kernel_rfl) (fun _ _ _ h => h) (by rfl) ?_ ?_
     rotate_left
     ·
      (intro w hSw; (try dsimp only at hSw); go_simp; try with_reducible rfl)
     try simp only [Act.put, sA, s0, s1]
     refine step_no 4 19 (by assumption) rfl rfl (by kernel_rfl) (by kernel_rfl) (by kernel_rfl) (fun _ _ _ h => h) (by rfl) ?_
     try simp only [Act.put, sA, s0, s1]
     refine step_no 5 20 (by assumption) rfl rfl (by kernel_rfl) (by kernel_rfl) (by kernel_rfl) (fun _ _ _ h => h) (by rfl) ?_
     try simp only [Act.put, sA, s0, s1]
     refine step_no 6 21 (by assumption) rfl rfl (by kernel_rfl) (by kernel_rfl) (by kernel_rfl) (fun _ _ _ h => h) (by rfl) ?_
     try simp only [Act.put, sA, s0, s1]
     refine step_no 7 22 (by assumption) rfl rfl (by kernel_rfl) (by kernel_rfl) (by kernel_rfl) (fun _ _ _ h => h) (by rfl) ?_
     try simp only [Act.put, sA, s0, s1]
     refine step_no 8 23 (by assumption) rfl rfl (by kernel_rfl) (by kernel_rfl) (by kernel_rfl) (fun _ _ _ h => h) (by rfl) ?_
     try simp only [Act.put, sA, s0, s1]
     refine step_no 9 24 (by assumption) rfl rfl (by kernel_rfl) (by kernel_rfl) (by kernel_rfl) (fun _ _ _ h => h) (by rfl) ?_
     try simp only [Act.put, sA, s0, s1]
     refine step_no 10 25 (by assumption) rfl rfl (by kernel_rfl) (by kernel_rfl) (by kernel_rfl) (fun _ _ _ h => h) (by rfl) ?_
     try simp only [Act.put, sA, s0, s1]
     refine step_no 11 26 (by assumption) rfl rfl (by kernel_rfl) (by kernel_rfl) (by kernel_rfl) (fun _ _ _ h => h) (by rfl) ?_
     try simp only [Act.put, sA, s0, s1]
     refine step_no 12 27 (by assumption) rfl rfl (by kernel_rfl) (by kernel_rfl) (by kernel_rfl) (fun _ _ _ h => h) (by rfl) ?_
     try simp only [Act.put, sA, s0, s1]
     refine step_no 13 28 (by assumption) rfl rfl (by kernel_rfl) (by kernel_rfl) (by kernel_rfl) (fun _ _ _ h => h) (by rfl) ?_
     try simp only [Act.put, sA, s0, s1]
     refine step_no 14 29 (by assumption) rfl rfl (by kernel_rfl) (by kernel_rfl) (by kernel_rfl) (fun _ _ _ h => h) (by rfl) ?_
     try simp only [Act.put, sA, s0, s1]
     refine step_no 15 30 (by assumption) rfl rfl (by kernel_rfl) (by kernel_rfl) (by kernel_rfl) (fun _ _ _ h => h) (by rfl) ?_
     try simp only [Act.put, sA, s0, s1]
     refine step_yes 16 31 ?_ (by assumption) rfl rfl (by kernel_rfl) (by kernel_rfl) (by kernel_rfl) (fun _ _ _ h => h) (by rfl) ?_ ?_
     rotate_left
     ·
      (intro w hSw; (try dsimp only at hSw); go_simp; try with_reducible rfl)
     try simp only [Act.put, sA, s0, s1]
     have hv2 : ¬ okFrom none xs = true := by rw [HOK.out]; simp
     have HV2 : V = 2 := HV.out.trans (if_neg hv2)
     subst HV2; clear hv2; refine wpAnyH_done (by kernel_rfl) ?_ _
     have CE := h_ (CW.out.trans C9.out)
     go_wp2; go_ret
     exact ⟨rfl, CE.out⟩
   ·
    obtain rfl : k = xs.length := by omega
    have hv := HI.out.2.1
    rw [List.drop_length] at hv
    have hv2 : okFrom none xs = true := by rw [hv]; cases prevS xs xs.length <;> rfl
    have HV2 : V = 0 := HV.out.trans (if_pos hv2)
    subst HV2; clear hv hv2; go_wp2; go_ret
    exact ⟨rfl, HI.out.1⟩
end
section

abbrev Sp := Int × Int × Int
def Ap (x y : Sp) : Prop := x.1 < y.1 ∨ x.1 = y.1 ∧ x.2.2 + 1 < y.2.1
instance (x y : Sp) : Decidable (Ap x y) := by unfold Ap; exact inferInstance
def SpOk (x : Sp) : Prop := x.2.1 ≤ x.2.2
def Norm (l : List Sp) : Prop := (∀ x ∈ l, SpOk x) ∧ l.Pairwise Ap
def InS (x : Sp) (n s : Int) : Prop := x.1 = n ∧ x.2.1 ≤ s ∧ s ≤ x.2.2
instance (x : Sp) (n s : Int) : Decidable (InS x n s) := by unfold InS; exact inferInstance
def Mem (l : List Sp) (n s : Int) : Prop := ∃ x ∈ l, InS x n s
instance (l : List Sp) (n s : Int) : Decidable (Mem l n s) := by unfold Mem; exact inferInstance
theorem mem_nil {n s : Int} : ¬ Mem [] n s := by rintro ⟨x, h, _⟩; exact absurd h (by simp)
theorem mem_cons {x : Sp} {l : List Sp} {n s : Int} : Mem (x :: l) n s ↔ InS x n s ∨ Mem l n s := by
 unfold Mem
 constructor
 ·
  rintro ⟨y, hy, hi⟩
  rcases List.mem_cons.1 hy with rfl | h
  ·
   exact .inl hi
  ·
   exact .inr ⟨y, h, hi⟩
 ·
  rintro (h | ⟨y, hy, hi⟩)
  ·
   exact ⟨x, by simp, h⟩
  ·
   exact ⟨y, by simp [hy], hi⟩
theorem mem_append {l m : List Sp} {n s : Int} : Mem (l ++ m) n s ↔ Mem l n s ∨ Mem m n s := by
 unfold Mem
 constructor
 ·
  rintro ⟨y, hy, hi⟩
  rcases List.mem_append.1 hy with h | h
  ·
   exact .inl ⟨y, h, hi⟩
  ·
   exact .inr ⟨y, h, hi⟩
 ·
  rintro (⟨y, hy, hi⟩ | ⟨y, hy, hi⟩)
  ·
   exact ⟨y, by simp [hy], hi⟩
  ·
   exact ⟨y, by simp [hy], hi⟩
theorem Norm.tail {x : Sp} {l : List Sp} (h : Norm (x :: l)) : Norm l := ⟨fun y hy => h.1 y (by simp [hy]), (List.pairwise_cons.1 h.2).2⟩
theorem Norm.head {x : Sp} {l : List Sp} (h : Norm (x :: l)) : SpOk x ∧ ∀ y ∈ l, Ap x y := ⟨h.1 x (by simp), (List.pairwise_cons.1 h.2).1⟩
theorem norm_nil : Norm [] := ⟨by simp, List.Pairwise.nil⟩
theorem norm_cons {x : Sp} {l : List Sp} (hx : SpOk x) (h : Norm l) (ha : ∀ y ∈ l, Ap x y) : Norm (x :: l) := ⟨fun y hy => by
 rcases List.mem_cons.1 hy with rfl | q
 ·
  exact hx
 ·
  exact h.1 y q, List.pairwise_cons.2 ⟨ha, h.2⟩⟩
theorem Ap.trans {x y z : Sp} (h : Ap x y) (k : Ap y z) (o : SpOk y) : Ap x z := by
 unfold Ap SpOk at *
 omega
theorem Norm.out {x : Sp} {l : List Sp} (h : Norm (x :: l)) {n s : Int} (hi : InS x n s) : ¬ Mem l n s := by
 rintro ⟨y, hy, hj⟩
 have a := h.head.2 y hy
 unfold Ap InS at *
 omega
theorem norm_first {x y : Sp} {xs ys : List Sp} (hx : Norm (x :: xs)) (hy : Norm (y :: ys)) (he : ∀ n s, Mem (x :: xs) n s → Mem (y :: ys) n s) : y.1 < x.1 ∨ y.1 = x.1 ∧ y.2.1 ≤ x.2.1 := by
 have ox := hx.head.1
 obtain ⟨z, hz, hi⟩ := he x.1 x.2.1 ⟨x, by simp, rfl, Int.le_refl _, ox⟩
 rcases List.mem_cons.1 hz with rfl | q
 ·
  unfold InS at hi; omega
 ·
  have a := hy.head.2 z q
  have oy := hy.head.1
  unfold Ap InS SpOk at *
  omega
theorem norm_end {x y : Sp} {xs ys : List Sp} (hx : Norm (x :: xs)) (hy : Norm (y :: ys)) (he : ∀ n s, Mem (y :: ys) n s → Mem (x :: xs) n s) (e1 : x.1 = y.1) (e2 : x.2.1 = y.2.1) : y.2.2 ≤ x.2.2 := by
 refine Int.not_lt.1 (fun hlt => ?_)
 have ox := hx.head.1
 obtain ⟨z, hz, hi⟩ := he y.1 (x.2.2 + 1) ⟨y, by simp, rfl, by unfold SpOk at ox; omega, by omega⟩
 rcases List.mem_cons.1 hz with rfl | q
 ·
  unfold InS at hi; omega
 ·
  have a := hx.head.2 z q
  unfold Ap InS at *
  omega
theorem norm_ext : ∀ {l m : List Sp}, Norm l → Norm m → (∀ n s, Mem l n s ↔ Mem m n s) → l = m
 | [], [], _, _, _ => rfl
 | [], y :: ys, _, hm, he => absurd ((he y.1 y.2.1).2 ⟨y, by simp, rfl, Int.le_refl _, hm.head.1⟩) mem_nil
 | x :: xs, [], hl, _, he => absurd ((he x.1 x.2.1).1 ⟨x, by simp, rfl, Int.le_refl _, hl.head.1⟩) mem_nil
 | x :: xs, y :: ys, hl, hm, he => by
  have a := norm_first hl hm (fun n s => (he n s).1)
  have b := norm_first hm hl (fun n s => (he n s).2)
  have e1 : x.1 = y.1 := by omega
  have e2 : x.2.1 = y.2.1 := by omega
  have c := norm_end hl hm (fun n s => (he n s).2) e1 e2
  have d := norm_end hm hl (fun n s => (he n s).1) e1.symm e2.symm
  have exy : x = y := Prod.ext e1 (Prod.ext e2 (by omega))
  subst exy
  rw [norm_ext hl.tail hm.tail (fun n s => ?_)]
  have q := he n s
  rw [mem_cons, mem_cons] at q
  by_cases hi : InS x n s
  ·
   exact ⟨fun z => absurd z (hl.out hi), fun z => absurd z (hm.out hi)⟩
  ·
   constructor
   ·
    intro z; exact (q.1 (.inr z)).resolve_left hi
   ·
    intro z; exact (q.2 (.inr z)).resolve_left hi
def pushP (out : List Sp) (z : Sp) : List Sp :=
 match out.getLast? with
 | none => [z]
 | some y => if Ap y z then out ++ [z] else out.dropLast ++ [(y.1, y.2.1, max y.2.2 z.2.2)]
def Le (x y : Sp) : Prop := x.1 < y.1 ∨ x.1 = y.1 ∧ x.2.1 ≤ y.2.1
theorem Le.trans {x y z : Sp} (h : Le x y) (k : Le y z) : Le x z := by unfold Le at *; omega
theorem last_split {l : List Sp} {y : Sp} (h : l.getLast? = some y) : l = l.dropLast ++ [y] := by
 obtain ⟨ys, e⟩ := List.getLast?_eq_some_iff.1 h
 rw [e]; simp
theorem mem_one {z : Sp} {n s : Int} : Mem [z] n s ↔ InS z n s := by
 rw [mem_cons]
 exact ⟨fun q => q.resolve_right mem_nil, .inl⟩
theorem norm_app {l : List Sp} {z : Sp} (h : Norm l) (hz : SpOk z) (ha : ∀ y ∈ l, Ap y z) : Norm (l ++ [z]) := by
 refine ⟨fun x hx => ?_, List.pairwise_append.2 ⟨h.2, by simp, fun a ha' b hb => ?_⟩⟩
 ·
  rcases List.mem_append.1 hx with q | q
  ·
   exact h.1 x q
  ·
   simp at q; subst q; exact hz
 ·
  simp at hb; subst hb; exact ha a ha'
theorem push_norm {out : List Sp} {z : Sp} (h : Norm out) (hz : SpOk z) (hl : ∀ y, out.getLast? = some y → Le y z) : Norm (pushP out z) ∧ (∀ n s, Mem (pushP out z) n s ↔ Mem out n s ∨ InS z n s) ∧ ∃ y, (pushP out z).getLast? = some y ∧ Le y z := by
 unfold pushP
 cases hg : out.getLast? with
 | none =>
  have e : out = [] := List.getLast?_eq_none_iff.1 hg
  subst e
  refine ⟨norm_cons hz norm_nil (by simp), fun n s => ?_, z, rfl, .inr ⟨rfl, Int.le_refl _⟩⟩
  show Mem [z] n s ↔ _
  rw [mem_one]
  exact ⟨.inr, fun q => q.resolve_left mem_nil⟩
 | some y =>
  have es := last_split hg
  have le := hl y hg
  have hym : y ∈ out := by rw [es]; simp
  have hd : ∀ x ∈ out.dropLast, Ap x y := by
   have := h.2
   rw [es] at this
   exact fun x hx => (List.pairwise_append.1 this).2.2 x hx y (by simp)
  simp only
  split
  ·
   rename_i ha
   refine ⟨norm_app h hz (fun x hx => ?_), fun n s => by rw [mem_append, mem_one], z, by simp, .inr ⟨rfl, Int.le_refl _⟩⟩
   rw [es] at hx
   rcases List.mem_append.1 hx with q | q
   ·
    exact (hd x q).trans ha (h.1 y hym)
   ·
    simp at q; subst q; exact ha
  ·
   rename_i ha
   have nd : Norm out.dropLast := by
    have := h
    rw [es] at this
    exact ⟨fun x hx => this.1 x (List.mem_append_left _ hx), (List.pairwise_append.1 this.2).1⟩
   have oy := h.1 y hym
   have fact : y.1 = z.1 ∧ y.2.1 ≤ z.2.1 ∧ z.2.1 ≤ y.2.2 + 1 := by unfold Ap Le at *; omega
   have mx : y.2.2 ≤ max y.2.2 z.2.2 ∧ z.2.2 ≤ max y.2.2 z.2.2 ∧ (max y.2.2 z.2.2 = y.2.2 ∨ max y.2.2 z.2.2 = z.2.2) := by omega
   refine ⟨norm_app nd (by unfold SpOk at *; simp only; omega) (fun x hx => by have := hd x hx; unfold Ap at *; simp only; omega), fun n s => ?_, (y.1, y.2.1, max y.2.2 z.2.2), by simp, by unfold Le at *; simp only; omega⟩
   have e2 : Mem out n s ↔ Mem out.dropLast n s ∨ InS y n s := by
    conv => lhs; rw [es]
    rw [mem_append, mem_one]
   have e3 : InS (y.1, y.2.1, max y.2.2 z.2.2) n s ↔ InS y n s ∨ InS z n s := by unfold InS SpOk at *; simp only; omega
   rw [mem_append, mem_one, e2, e3, or_assoc]
theorem fold_norm : ∀ {zs out : List Sp}, Norm out → (∀ z ∈ zs, SpOk z) → zs.Pairwise Le → (∀ y z, out.getLast? = some y → z ∈ zs → Le y z) → Norm (zs.foldl pushP out) ∧ ∀ n s, Mem (zs.foldl pushP out) n s ↔ Mem out n s ∨ Mem zs n s
 | [], out, h, _, _, _ => ⟨h, fun n s => ⟨.inl, fun q => q.resolve_right mem_nil⟩⟩
 | z :: zs, out, h, ho, hp, hl => by
  obtain ⟨a, b, y, e, le⟩ := push_norm h (ho z (by simp)) (fun y hy => hl y z hy (by simp))
  have hp' := List.pairwise_cons.1 hp
  obtain ⟨c, d⟩ := fold_norm (zs := zs) a (fun x hx => ho x (by simp [hx])) hp'.2 (fun y' x hy' hx => by rw [e] at hy'; cases hy'; exact le.trans (hp'.1 x hx))
  rw [List.foldl_cons]
  refine ⟨c, fun n s => ?_⟩
  rw [d n s, b n s, mem_cons, or_assoc]
end
end Go.Proofs.YtehmchdhlhchjaaGreatDoor
