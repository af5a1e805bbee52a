/- The reader's number where digits follow. The reader's number, whatever stands there; Num, Text and Raw. The reader's piece; Raw and Text. The reader's Raw and Text, whatever stands there. Paths, purely: the parts of a text, which parts may be, which texts are paths. No program is named here. Rows of texts. A range over a function whose iterator hands over what it has laid itself; the body always goes on: no program here. A range over a function whose iterator writes cells of its own (blocks Si), with a body that writes cells of its caller's (blocks T) and may leave: no program here. strings.SplitSeq at the byte 47: what its iterator hands over. path.isPart: which texts are parts. path.Check: which texts are paths. The document's parts. The document's cut. The document's Check. path.Under and the document's. path.Near, the document's Under and Near. -/
import Derived.Test.YtimdfpejgaidhaaGreatDoorZtwa
import Derived.Lib.DecodeN
import Derived.RangeFuncNested
import Derived.RangeFuncBound
import Derived.RangeFuncCalls
import Derived.RangeFuncLeaves
import Derived.Shelf.Abstract
import Derived.Shelf.RegionOpen
import Derived.WalkKit
import Derived.OwnWalkIn
import Derived.TacticsInMore
import Derived.LoopNIn
import Derived.LoopIn
import Derived.Test.YtimdfpejgaidhaaGreatDoorShelf
import Derived.Shelf.Strings.Search3
import Derived.Deep.QuietTactic
import Derived.BigQuiet
import Derived.Shelf.GgClosure.StringsRunes
import Derived.Scope
import Derived.Deep.RegionHeld3
import Derived.Shelf.Small.Wraps
import Derived.Shelf.Strings.Prefix
namespace Go.Proofs.YtimdfpejgaidhaaGreatDoor
section
open Go.RowKit

/-- What stands between the bytes 47 of a text; acc: what was read of the first one. -/
def cutA : List UInt8 → List UInt8 → List (List UInt8)
  | acc, [] => [acc]
  | acc, b :: l => if b = 47 then acc :: cutA [] l else cutA (acc ++ [b]) l
def cutL (l : List UInt8) : List (List UInt8) := cutA [] l
theorem cutA_ne : ∀ acc l, cutA acc l ≠ []
  | acc, [] => by simp [cutA]
  | acc, b :: l => by
    unfold cutA
    split
    · simp
    · exact cutA_ne _ l
theorem cutA_no : ∀ (l acc : List UInt8), 47 ∉ l → cutA acc l = [acc ++ l]
  | [], acc, _ => by simp [cutA]
  | b :: l, acc, h => by
    simp only [List.mem_cons, not_or] at h
    rw [cutA, if_neg (fun e => h.1 e.symm), cutA_no l _ h.2, List.append_assoc]
    rfl
theorem cutA_at : ∀ (a acc b : List UInt8), 47 ∉ a → cutA acc (a ++ 47 :: b) = (acc ++ a) :: cutA [] b
  | [], acc, b, _ => by simp [cutA]
  | x :: a, acc, b, h => by
    simp only [List.mem_cons, not_or] at h
    rw [List.cons_append, cutA, if_neg (fun e => h.1 e.symm), cutA_at a _ b h.2, List.append_assoc]
    rfl
theorem cutA_len (l : List UInt8) : ∀ acc, (cutA acc l).length ≤ l.length + 1 := by
  induction l with
  | nil => intro acc; simp [cutA]
  | cons b l ih =>
    intro acc
    unfold cutA
    split
    · have := ih []; simp; omega
    · have := ih (acc ++ [b]); simp; omega

/-- May a byte be in a part? -/
def okB (b : UInt8) : Bool := (97 ≤ b.toNat && b.toNat ≤ 122) || (48 ≤ b.toNat && b.toNat ≤ 57) || b == 46 || b == 95 || b == 45
def partL (most : Nat) (p : List UInt8) : Bool := p.all okB && decide (1 ≤ p.length) && decide (p.length ≤ most) && p != [46] && p != [46, 46]
def checkL (parts most : Nat) (l : List UInt8) : Bool := decide ((cutL l).length ≤ parts) && (cutL l).all (partL most)
/-- Has a letter no place in a part? -/
def foreignR (c : Nat) : Bool := !((97 ≤ c && c ≤ 122) || (48 ≤ c && c ≤ 57) || c == 46 || c == 95 || c == 45)
theorem foreign_byte (b : UInt8) : foreignR b.toNat = !okB b := by
  have e : ∀ k : UInt8, (b.toNat == k.toNat) = (b == k) := fun k => by
    rw [Bool.eq_iff_iff, beq_iff_eq, beq_iff_eq]
    exact ⟨fun h => UInt8.toNat_inj.1 h, fun h => by rw [h]⟩
  unfold foreignR okB
  have e1 := e 46
  have e2 := e 95
  have e3 := e 45
  simp only [show (46 : UInt8).toNat = 46 from rfl, show (95 : UInt8).toNat = 95 from rfl, show (45 : UInt8).toNat = 45 from rfl] at e1 e2 e3
  rw [e1, e2, e3]
theorem foreign_ge {c : Nat} (h : 128 ≤ c) : foreignR c = true := by
  simp [foreignR]
  omega
theorem decodeN_ge (n b0 b1 b2 b3 : Nat) (h : 128 ≤ b0) : 128 ≤ (Lib.decodeN n b0 b1 b2 b3).1 := by
  unfold Lib.decodeN
  repeat' split
  all_goals first | omega | (simp only; omega)
theorem get_at (s : ByteArray) (i : Nat) (b : UInt8) (h : s.data.toList[i]? = some b) : s.get! i = b := by
  have hi : i < s.data.size := by
    have := (List.getElem?_eq_some_iff.1 h).1
    simpa using this
  have : s.data[i]? = some b := by rwa [Array.getElem?_toList] at h
  show s.data[i]! = b
  rw [getElem!_pos s.data i hi]
  exact (Array.getElem?_eq_some_iff.1 this).2
/-- The letter at a byte that may be in a part is that byte; at another one it has no place in a part. -/
theorem foreign_at (s : ByteArray) (i : Nat) (b : UInt8) (h : s.data.toList[i]? = some b) : foreignR (Utf8.decode s i).1 = !okB b ∧ (okB b = true → (Utf8.decode s i).2 = 1) := by
  rw [Lib.decode_at, get_at s i b h]
  by_cases hb : b.toNat < 128
  · have e : ∀ n x y z, Lib.decodeN n b.toNat x y z = (b.toNat, 1) := fun n x y z => by unfold Lib.decodeN; rw [if_pos hb]
    rw [e]
    exact ⟨foreign_byte b, fun _ => rfl⟩
  · have hb : 128 ≤ b.toNat := by omega
    have ho : okB b = false := by
      have := foreign_byte b
      rw [foreign_ge hb] at this
      simpa using this.symm
    rw [ho]
    exact ⟨foreign_ge (decodeN_ge _ _ _ _ _ hb), fun h => by cases h⟩
end
section
open Go.RowKit
def textTy : RowTy (List UInt8) where
  enc := fun x => [.string (strOf x)]
  k := 1
  T := 9
  TS := 80
  z := []
  zv := .string ⟨#[]⟩
  bytes := 16
  klen := fun _ => rfl
  one := by intro x v hv; simp at hv; rcases hv with rfl <;> rfl
  zc := rfl
  kpos := by decide
  bpos := by decide
  under := by kernel_rfl
  info := by kernel_rfl
theorem textCells {w : World} {g o n j : Nat} {xs : List (List UInt8)} (h : RdK textTy w (some ⟨g, o, none⟩) n xs) {x : List UInt8} (hx : xs[j]? = some x) : w.cell? ⟨g, o + j, none⟩ = some (.string (strOf x)) := by
  have := h.at_ j 0 x _ hx rfl
  rwa [show textTy.k = 1 from rfl, Nat.mul_one, Nat.add_zero] at this
theorem strOf_of (s : ByteArray) : strOf s.data.toList = s := by
  unfold strOf
  rw [Array.toArray_toList]
theorem strOf_inj {a b : List UInt8} (h : strOf a = strOf b) : a = b := by
  have := congrArg (fun s : ByteArray => s.data.toList) h
  simpa [strOf] using this
theorem strOf_ext (l : List UInt8) (a b : Nat) : (strOf l).extract a b = strOf ((l.drop a).take (b - a)) := by
  apply ByteArray.ext
  apply Array.toList_inj.1
  rw [show ((strOf l).extract a b).data = (strOf l).data.extract a b from ByteArray.data_extract]
  simp [strOf, List.extract_eq_take_drop]
end
section
open Go.RowKit

/-- Below n, only the blocks T may have turned. -/
structure Kpt (n : Nat) (T : List Nat) (w w' : World) : Prop where
  os : w'.os = w.os
  tape : w'.tape = w.tape
  output : w'.output = w.output
  size : w.heap.size ≤ w'.heap.size
  block : ∀ k, k < n → k ∉ T → w'.heap[k]? = w.heap[k]?
theorem Kpt.refl (n : Nat) (T : List Nat) (w : World) : Kpt n T w w := ⟨rfl, rfl, rfl, Nat.le_refl _, fun _ _ _ => rfl⟩
theorem Kpt.trans {n : Nat} {T : List Nat} {a b c : World} (h : Kpt n T a b) (k : Kpt n T b c) : Kpt n T a c :=
  ⟨k.os.trans h.os, k.tape.trans h.tape, k.output.trans h.output, Nat.le_trans h.size k.size, fun i hi hn => (k.block i hi hn).trans (h.block i hi hn)⟩
theorem Kpt.of_chg {n : Nat} {T : List Nat} {a b : World} (h : Chg T a b) (hn : n ≤ a.heap.size) : Kpt n T a b :=
  ⟨h.os, h.tape, h.output, h.size, fun k hk hT => h.block k (by omega) hT⟩
theorem Kpt.of_below {n m : Nat} {T : List Nat} {a b : World} (h : Below m a b) (hn : n ≤ m) : Kpt n T a b :=
  ⟨h.os, h.tape, h.output, h.size, fun k hk _ => h.block k (by omega)⟩
theorem Kpt.mono {n m : Nat} {S T : List Nat} {a b : World} (h : Kpt m S a b) (hn : n ≤ m) (hS : ∀ x ∈ S, x ∈ T) : Kpt n T a b :=
  ⟨h.os, h.tape, h.output, h.size, fun k hk hT => h.block k (by omega) (fun hs => hT (hS k hs))⟩
/-- How a round's body may be left. -/
def brkPost {α : Type} (I : List α → World → Prop) (Ix : Code → List α → World → Prop) (n₁ : Nat) (T : List Nat) (xs : List α) (W : World) : Exit → Act → World → Prop
  | .normal, _, W' => KeepsOthers W W' ∧ Kpt n₁ T W W' ∧ I xs W'
  | .ret, _, W' => KeepsOthers W W' ∧ Ix .ret xs W'
  | .exit id, _, W' => KeepsOthers W W' ∧ Ix (.exit id) xs W'
  | _, _, _ => False

theorem range_brk {α : Type} {P : Program} {n : Nat} {g : Operand} {ps : Array Tmp} {assign body : Code} {Q : Exit → Act → World → Prop} {a : Act} {w : World} {gf : Nat} {lb : Array Value}
    (hg : a.eval g = .func (.func gf) #[] lb) (eg : ∀ args w, (callFunc gf args).run P w = .ok (.enter gf args) w) {encs : α → Array Value} {S Sp : List α → Prop} {Ex : List α → α → World → Prop} {n₁ : Nat} (hn₁ : n₁ ≤ w.heap.size) {Si T : List Nat} (hSi : ∀ x ∈ Si, x < w.heap.size)
    (hseq : ∀ (l : Nat) (J Jx : List α → World → Prop) (W : World), Below w.heap.size w W → (∀ pre A B, J pre A → Kpt W.heap.size Si A B → J pre B) → (∀ pre A B, Jx pre A → Kpt W.heap.size Si A B → Jx pre B) →
      (∀ pre x W1, J pre W1 → Ex pre x W1 → YieldAt Fence.wide (n - 1 - 1) P l (encs x) W1 fun e W' => (e = .returned (.bool true) ∧ J (pre ++ [x]) W' ∧ Kpt n₁ T W1 W') ∨ (e = .returned (.bool false) ∧ Jx (pre ++ [x]) W')) →
      J [] W → CallsIn Fence.wide (n - 1) P gf (#[.func (.yield l) #[] #[]] ++ lb) W fun e W' => (∃ v, e = .returned v) ∧ ((∃ xs, S xs ∧ J xs W') ∨ ∃ xs, Sp xs ∧ Jx xs W'))
    (hps : ∀ x, (encs x).size = ps.size) (I : List α → World → Prop) (Ix : Code → List α → World → Prop) (hI : ∀ pre A B, I pre A → Kpt w.heap.size Si A B → I pre B) (hIx : ∀ c pre A B, Ix c pre A → Kpt w.heap.size Si A B → Ix c pre B) (h0 : I [] w)
    (hEx : ∀ pre x W l o o', W.heap[l]? = some o → o.isCells = false → Ex pre x W → Ex pre x (W.putObj l o')) (a₁ : α → Act)
    (hassign : ∀ (l : Nat) (x : α) (W : World) (K : Act → World → Prop), K (a₁ x) W →
      assign.wpIn (Fence.wide.inRound l) (n - 1 - 1) P (Exit.then K (fun _ _ _ => False)) { tmps := (ps.zip (encs x)).foldl (fun t (p, v) => t.setIfInBounds p v) a.tmps, defers := [] } W)
    (hbody : ∀ (l : Nat) (pre : List α) (x : α) (W : World), I pre W → Ex pre x W → body.wpIn (Fence.wide.inRound l) (n - 1 - 1) P (brkPost I Ix n₁ T (pre ++ [x]) W) (a₁ x) W)
    (hdone : ∀ (D : Nat) (xs : List α) (W : World), w.heap.size ≤ D → S xs → I xs W → W.heap[D]? = some (.deferred (some [])) → Q .normal { a with defers := { target := .collected D, args := #[] } :: a.defers } W)
    (hstop : ∀ (D : Nat) (c : Code) (xs : List α) (W : World), w.heap.size ≤ D → Sp xs → Ix c xs W → W.heap[D]? = some (.deferred (some [])) → c.wpIn Fence.wide n P Q { a with defers := { target := .collected D, args := #[] } :: a.defers } W) :
    (Code.rangeFunc g ps assign body).wpIn Fence.wide n P Q a w := by
  refine wpIn_rangeFunc ?_
  intro fn hfn
  obtain ⟨rc, hrc⟩ : ∃ rc : LoopState → Option Code → Loop, rc = fun st pe => { state := st, pending := pe, fn, tmps := a.tmps, params := ps, assign, body, defers := w.heap.size } := ⟨_, rfl⟩
  obtain ⟨V, hV, hcV, hD0, hL0⟩ := news2 w (.deferred (some [])) (.loop (rc .ready none))
  have hsV : V.heap.size = w.heap.size + 2 := by rw [hV]; simp
  have bV : Below w.heap.size w V := by rw [hV]; exact ((Below.refl _ w).alloc (Nat.le_refl _) _).alloc (by simp) _
  refine ⟨w.heap.size + 1, [{ target := .collected w.heap.size, args := #[] }], V, { target := .fn (.func gf) lb, args := #[.func (.yield (w.heap.size + 1)) #[] #[]] }, V, gf,
    #[.func (.yield (w.heap.size + 1)) #[] #[]] ++ lb, V, ?_, ?_, fun _ _ => trivial, ?_, fun h => by simp [Fence.wide] at h, ?_⟩
  · rw [hV, hrc]; exact run_enterLoop_outer _ _ _ _ _
  · simp only [resolve, hg]
    simp [go_sem]
  · simp [invoke, go_sem, eg]
  · -- the record and the row of deferred calls, turned or not, lie at or behind w's end
    have turn : ∀ (W : World) (o : Obj) (o' : Obj), W.heap[w.heap.size + 1]? = some o → o.isCells = false → o.isWalk = false → ∀ m, m ≤ w.heap.size → Below m W (W.putObj (w.heap.size + 1) o') :=
      fun W o o' h hc hw m hm => belowK_b (w := w) hm W _ o o' (by omega) h hc hw
    have far : ∀ k, w.heap.size ≤ k → k ∉ Si := fun k hk h => by have := hSi k h; omega
    refine (hseq (w.heap.size + 1) (fun pre W => I pre W ∧ W.heap[w.heap.size + 1]? = some (.loop (rc .ready none)) ∧ W.heap[w.heap.size]? = some (.deferred (some [])))
      (fun pre W => ∃ c, Ix c pre W ∧ W.heap[w.heap.size + 1]? = some (.loop (rc .done (some c))) ∧ W.heap[w.heap.size]? = some (.deferred (some []))) V bV ?_ ?_ ?_
      ⟨hI _ _ _ h0 (Kpt.of_below bV (Nat.le_refl _)), hL0, hD0⟩).mono ?_
    · rintro pre A B ⟨hi, hl, hk⟩ hb
      exact ⟨hI _ _ _ hi (hb.mono (by omega) (fun _ h => h)), (hb.block _ (by omega) (far _ (by omega))).trans hl, (hb.block _ (by omega) (far _ (Nat.le_refl _))).trans hk⟩
    · rintro pre A B ⟨c, hi, hl, hk⟩ hb
      exact ⟨c, hIx _ _ _ _ hi (hb.mono (by omega) (fun _ h => h)), (hb.block _ (by omega) (far _ (by omega))).trans hl, (hb.block _ (by omega) (far _ (Nat.le_refl _))).trans hk⟩
    · rintro pre x W ⟨hi, hl, hk⟩ hx
      have hlt := lt_of_heap hl
      have hy := run_yield (P := P) (args := encs x) hl (by rw [hrc]; exact hps x)
      rw [hrc] at hy
      refine ⟨fn, _, assign, body, hy, roundIn_of_wpIn hfn (hassign _ x W _ ⟨_, run_beginRound hl (by rw [hrc]), ?_⟩)⟩
      have hl2 : (W.putObj (w.heap.size + 1) (.loop { rc .ready none with state := .busy })).heap[w.heap.size + 1]? = some (.loop { rc .ready none with state := .busy }) := World.putObj_heap_same hlt
      have hk2 : (W.putObj (w.heap.size + 1) (.loop { rc .ready none with state := .busy })).heap[w.heap.size]? = some (.deferred (some [])) := (World.putObj_heap_other (by omega)).trans hk
      have b2 := turn W _ (.loop { rc .ready none with state := .busy }) hl rfl rfl
      refine wpIn_mono (hbody _ pre x _ (hI _ _ _ hi (Kpt.of_below (b2 _ (Nat.le_refl _)) (Nat.le_refl _))) (hEx pre x W _ _ _ hl rfl hx)) ?_
      have fin : ∀ (c : Code) (W3 : World), KeepsOthers (W.putObj (w.heap.size + 1) (.loop { rc .ready none with state := .busy })) W3 → Ix c (pre ++ [x]) W3 →
          ∃ v w', (Instr.endRound (w.heap.size + 1) (some c)).run P W3 = .ok v w' ∧ ((Ending.returned v = .returned (.bool true) ∧ (I (pre ++ [x]) w' ∧ w'.heap[w.heap.size + 1]? = some (.loop (rc .ready none)) ∧ w'.heap[w.heap.size]? = some (.deferred (some []))) ∧ Kpt n₁ T W w') ∨
            (Ending.returned v = .returned (.bool false) ∧ ∃ c, Ix c (pre ++ [x]) w' ∧ w'.heap[w.heap.size + 1]? = some (.loop (rc .done (some c))) ∧ w'.heap[w.heap.size]? = some (.deferred (some [])))) := by
        intro c W3 hk3 hi3
        have hl3 := hk3.same _ _ hl2 rfl
        have hd3 := hk3.same _ _ hk2 rfl
        have hr := run_endRound (P := P) (some c) hl3
        have b4 := turn W3 _ (.loop (rc .done (some c))) hl3 rfl rfl
        refine ⟨_, _, hr, .inr ⟨rfl, c, ?_, ?_, ?_⟩⟩
        · have := hIx _ _ _ _ hi3 (Kpt.of_below (b4 _ (Nat.le_refl _)) (Nat.le_refl _))
          rw [hrc] at this ⊢
          exact this
        · rw [hrc]; exact World.putObj_heap_same (lt_of_heap hl3)
        · exact (World.putObj_heap_other (by omega)).trans hd3
      rintro e a3 W3 hp
      cases e with
      | normal =>
        obtain ⟨hk3, hb3, hi3⟩ := hp
        have hl3 := hk3.same _ _ hl2 rfl
        have hd3 := hk3.same _ _ hk2 rfl
        have hr := run_endRound (P := P) none hl3
        have b4 := turn W3 _ (.loop (rc .ready none)) hl3 rfl rfl
        refine ⟨_, _, hr, .inl ⟨rfl, ⟨?_, ?_, ?_⟩, ?_⟩⟩
        · have := hI _ _ _ hi3 (Kpt.of_below (b4 _ (Nat.le_refl _)) (Nat.le_refl _))
          rw [hrc] at this ⊢
          exact this
        · rw [hrc]; exact World.putObj_heap_same (lt_of_heap hl3)
        · exact (World.putObj_heap_other (by omega)).trans hd3
        · have := ((Kpt.of_below (T := T) (b2 _ hn₁) (Nat.le_refl _)).trans hb3).trans (Kpt.of_below (b4 _ hn₁) (Nat.le_refl _))
          rw [hrc] at this ⊢
          exact this
      | ret => exact fin .ret W3 hp.1 hp.2
      | exit id => exact fin (.exit id) W3 hp.1 hp.2
      | goto t => exact hp.elim
      | panic ch => exact hp.elim
      | outgrown => exact hp.elim
    · rintro e W2 ⟨⟨v, rfl⟩, (⟨xs, hS, hi, hl, hk⟩ | ⟨xs, hS, c, hi, hl, hk⟩)⟩
      · refine ⟨none, _, by have := run_endLoop (P := P) hl (by rw [hrc]; simp); rw [hrc] at this; exact this, hdone _ xs _ (Nat.le_refl _) hS ?_ ((World.putObj_heap_other (by omega)).trans hk)⟩
        exact hI _ _ _ hi (Kpt.of_below (turn W2 _ _ hl rfl rfl _ (Nat.le_refl _)) (Nat.le_refl _))
      · refine ⟨some c, _, by have := run_endLoop (P := P) hl (by rw [hrc]; simp); rw [hrc] at this; exact this, hstop _ c xs _ (Nat.le_refl _) hS ?_ ((World.putObj_heap_other (by omega)).trans hk)⟩
        exact hIx _ _ _ _ hi (Kpt.of_below (turn W2 _ _ hl rfl rfl _ (Nat.le_refl _)) (Nat.le_refl _))
end
section
open Go.RowKit
set_option linter.unusedSimpArgs false
set_option linter.unusedVariables false
attribute [local go_sem] Oper.semAt_some

theorem idx_no : ∀ (l : List UInt8), 47 ∉ l → Lib.indexByte l 47 = -1
  | [], _ => rfl
  | b :: l, h => by
    simp only [List.mem_cons, not_or] at h
    have hb : (b == 47) = false := by simpa using fun e => h.1 e.symm
    simp [Lib.indexByte, hb, idx_no l h.2]
theorem idx_at : ∀ (a b : List UInt8), 47 ∉ a → Lib.indexByte (a ++ 47 :: b) 47 = (a.length : Int)
  | [], b, _ => by simp [Lib.indexByte]
  | x :: a, b, h => by
    simp only [List.mem_cons, not_or] at h
    have hb : (x == 47) = false := by simpa using fun e => h.1 e.symm
    have := idx_at a b h.2
    simp only [List.cons_append, Lib.indexByte, hb, this]
    have h2 : ((a.length : Int) == -1) = false := by simp
    simp [h2]
theorem at47 (l : List UInt8) : 47 ∉ l ∨ ∃ a b, l = a ++ 47 :: b ∧ 47 ∉ a := by
  by_cases h : 47 ∈ l
  · right
    induction l with
    | nil => simp at h
    | cons x l ih =>
      by_cases hx : x = 47
      · subst hx; exact ⟨[], l, rfl, by simp⟩
      · have : 47 ∈ l := by
          rcases List.mem_cons.1 h with h | h
          · exact absurd h.symm hx
          · exact h
        obtain ⟨a, b, e, ha⟩ := ih this
        refine ⟨x :: a, b, by rw [e]; rfl, ?_⟩
        simp only [List.mem_cons, not_or]
        exact ⟨fun e => hx e.symm, ha⟩
  · exact .inl h
theorem index_no (w : World) (l : List UInt8) (h : 47 ∉ l) : Calls Tryz.prog 139 #[.string (strOf l), .string ⟨#[47]⟩] w fun e w' => e = .returned (.int .i64 (-1)) ∧ w' = w := by
  refine (Any.strings_Index_one Tryz.lays143 (strOf l) 47 w).mono ?_
  rintro e w' ⟨rfl, rfl⟩
  rw [strOf_data, idx_no l h]
  exact ⟨rfl, rfl⟩
theorem index_at (w : World) (a b : List UInt8) (h : 47 ∉ a) : Calls Tryz.prog 139 #[.string (strOf (a ++ 47 :: b)), .string ⟨#[47]⟩] w fun e w' => e = .returned (.int .i64 (a.length : Int)) ∧ w' = w := by
  refine (Any.strings_Index_one Tryz.lays143 (strOf (a ++ 47 :: b)) 47 w).mono ?_
  rintro e w' ⟨rfl, rfl⟩
  rw [strOf_data, idx_at a b h]
  exact ⟨rfl, rfl⟩
set_option maxRecDepth 100000 in
set_option maxHeartbeats 2000000 in
theorem split1_gives (n : Nat) (l n₁ bs bp bv : Nat) (T : List Nat) (xs : List UInt8) (hlen : xs.length ≤ 140737488351232)
    (J Jx : List (List UInt8) → World → Prop) (W : World) (hs1 : bs < n₁) (hp1 : bp < n₁) (hv1 : bv < n₁) (hsp : bs ≠ bp) (hsv : bs ≠ bv) (hTs : bs ∉ T) (hTp : bp ∉ T) (hTv : bv ∉ T) (hn₁ : n₁ ≤ W.heap.size)
    (hJ : ∀ pre A B, J pre A → Kpt W.heap.size [bs] A B → J pre B)
    (hY : ∀ pre x W1, J pre W1 → (pre ++ [x]) <+: cutL xs → YieldAt Fence.wide n Tryz.prog l #[.string (strOf x)] W1 fun e W' => (e = .returned (.bool true) ∧ J (pre ++ [x]) W' ∧ Kpt n₁ T W1 W') ∨ (e = .returned (.bool false) ∧ Jx (pre ++ [x]) W'))
    (hp : W.cell? ⟨bp, 0, none⟩ = some (.string ⟨#[47]⟩)) (hs : W.heap[bs]? = some (.cells #[.string (strOf xs)] 9 (0, 0))) (hv : W.cell? ⟨bv, 0, none⟩ = some (.int .i64 0)) (h0 : J [] W) :
    CallsIn Fence.wide (n + 1) Tryz.prog 137 #[.func (.yield l) #[] #[], .pointer (some ⟨bp, 0, none⟩), .pointer (some ⟨bs, 0, none⟩), .pointer (some ⟨bv, 0, none⟩)] W fun e W' => (∃ v, e = .returned v) ∧ ((∃ ys, ys = cutL xs ∧ J ys W') ∨ ∃ ys, True ∧ Jx ys W') := by
  have h1 : 1 ≤ n + 1 := by omega
  have hro : Fence.wide.round = none := rfl
  refine callsIn_of_wp Tryz.func137 rfl trivial ?_ hro
  simp only [Tryz.ntmps137, List.size_toArray, List.length_cons, List.length_nil, Nat.reduceAdd, Nat.reduceSub, Array.replicate_succ, Array.replicate_zero, List.push_toArray, List.append_toArray, List.nil_append, List.cons_append]
  gi_wp2
  gi_loopw [7, 8] (fun v7 v8 wr => ∃ (pre : List (List UInt8)) (rest : List UInt8), pre ++ cutA [] rest = cutL xs ∧ rest.length ≤ xs.length ∧ wr.heap[bs]? = some (.cells #[.string (strOf rest)] 9 (0, 0)) ∧ J pre wr ∧ Kpt n₁ (bs :: T) W wr)
    (fun _ _ wr => match wr.cell? ⟨bs, 0, none⟩ with | some (.string s) => s.size | _ => 0)
  case atStart => exact ⟨[], xs, rfl, Nat.le_refl _, hs, h0, Kpt.refl _ _ _⟩
  case round =>
    obtain ⟨pre, rest, hcut, hrl, hcell, hJs, hk⟩ := hrel
    have hbs := lt_of_heap hcell
    have cs := cell_of hcell 0
    simp only [List.getElem?_toArray, List.getElem?_cons_zero] at cs
    have cf := free_of hcell 0
    have cp := ((by rw [World.cell?, World.cell?, hk.block bp hp1 (by simp; exact ⟨fun e => hsp e.symm, hTp⟩)] : wr.cell? ⟨bp, 0, none⟩ = W.cell? ⟨bp, 0, none⟩)).trans hp
    have cv := ((by rw [World.cell?, World.cell?, hk.block bv hv1 (by simp; exact ⟨fun e => hsv e.symm, hTv⟩)] : wr.cell? ⟨bv, 0, none⟩ = W.cell? ⟨bv, 0, none⟩)).trans hv
    rcases at47 rest with hno | ⟨a, b, rfl, hno⟩
    · -- the last piece
      rw [cutA_no _ _ hno, List.nil_append] at hcut
      obtain ⟨fn, tmps, assign, body, hy, hR⟩ := hY pre rest wr hJs (by rw [hcut]; exact List.prefix_refl _)
      gi_wp2_with (refine ⟨trivial, ?_⟩; gi_at_call 139; refine (callsIn_wide.2 (index_no _ rest hno)).mono ?_; rintro e w1 ⟨rfl, rfl⟩)
      refine hR.mono ?_
      rintro e W3 (⟨rfl, hJ3, hk3⟩ | ⟨rfl, hx⟩)
      · gi_wp2
        go_end0
        exact ⟨⟨_, rfl⟩, .inl ⟨_, hcut, hJ3⟩⟩
      · gi_wp2
        go_end0
        exact ⟨⟨_, rfl⟩, .inr ⟨_, trivial, hx⟩⟩
    · -- a piece, and more behind it
      rw [cutA_at _ _ _ hno, List.nil_append] at hcut
      obtain ⟨fn, tmps, assign, body, hy, hR⟩ := hY pre a wr hJs ⟨cutA [] b, by rw [← hcut]; simp⟩
      have ez : (strOf (a ++ 47 :: b)).size = a.length + 1 + b.length := by rw [strOf_size]; simp; omega
      have hrl' : a.length + 1 + b.length ≤ xs.length := by rw [← strOf_size, ez] at hrl; exact hrl
      have i0 : (0 : Int) ≤ (a.length : Int) := by omega
      have i4 : a.length + 1 ≤ 140737488351232 := by omega
      have i1 : ¬ ((a.length : Int) < 0) := by omega
      have i2 : (a.length : Int) ≤ ((strOf (a ++ 47 :: b)).size : Int) := by rw [ez]; omega
      have i3 : (a.length : Int) + 1 ≤ ((strOf (a ++ 47 :: b)).size : Int) := by rw [ez]; omega
      have e1 : (strOf (a ++ 47 :: b)).extract 0 a.length = strOf a := by rw [strOf_ext]; simp
      have e2 : (strOf (a ++ 47 :: b)).extract (a.length + 1) (strOf (a ++ 47 :: b)).size = strOf b := by
        rw [strOf_ext, ez]
        congr 1
        rw [show (a ++ 47 :: b).drop (a.length + 1) = b by rw [show a ++ 47 :: b = (a ++ [47]) ++ b by simp]; exact List.drop_left' (by simp)]
        exact List.take_of_length_le (by omega)
      gi_wp2_with (refine ⟨trivial, ?_⟩; gi_at_call 139; refine (callsIn_wide.2 (index_at _ a b hno)).mono ?_; rintro e w1 ⟨rfl, rfl⟩)
      refine hR.mono ?_
      rintro e W3 (⟨rfl, hJ3, hk3⟩ | ⟨rfl, hx⟩)
      · have hc3 : W3.heap[bs]? = some (.cells #[.string (strOf (a ++ 47 :: b))] 9 (0, 0)) := (hk3.block bs hs1 hTs).trans hcell
        have cs3 := cell_of hc3 0
        simp only [List.getElem?_toArray, List.getElem?_cons_zero] at cs3
        have cf3 := free_of hc3 0
        have cp3 : W3.cell? ⟨bp, 0, none⟩ = some (.string ⟨#[47]⟩) := ((by rw [World.cell?, World.cell?, hk3.block bp hp1 hTp] : W3.cell? ⟨bp, 0, none⟩ = w1.cell? ⟨bp, 0, none⟩)).trans cp
        have e3 : (W3.setCell ⟨bs, 0, none⟩ (.string (strOf b))).heap[bs]? = some (.cells #[.string (strOf b)] 9 (0, 0)) := by simpa using heap_setCell_same W3 bs 0 _ _ (.string (strOf b)) hc3
        have E2 := Lib.hid (show (strOf (a ++ 47 :: b)).extract (a.length + 1) (a.length + 1 + b.length) = strOf b by rw [← ez]; exact e2)
        have K3 := Lib.hid hc3
        have JJ := Lib.hid (hJ _ _ (W3.setCell ⟨bs, 0, none⟩ (.string (strOf b))) hJ3 (Kpt.of_chg ((Chg.refl [bs] W3).setCell (p := ⟨bs, 0, none⟩) (.inl (by simp)) _) (by have := hk.size; have := hk3.size; omega)))
        clear hc3
        gi_wp2
        go_roundw
        case rel =>
          rw [E2.out]
          exact ⟨pre ++ [a], b, by rw [← hcut]; simp, by omega, e3, JJ.out, (hk.trans (hk3.mono (Nat.le_refl _) (fun x h => List.mem_cons_of_mem _ h))).trans (Kpt.of_chg ((Chg.refl [bs] W3).setCell (p := ⟨bs, 0, none⟩) (.inl (by simp)) _) (by have := hk.size; have := hk3.size; omega) |>.mono (Nat.le_refl _) (by simp))⟩
        case measure =>
          have e4 := cell_of e3 0
          simp only [List.getElem?_toArray, List.getElem?_cons_zero] at e4
          rw [E2.out, e4, cs]
          show (strOf b).size < (strOf (a ++ 47 :: b)).size
          rw [strOf_size, ez]
          omega
      · gi_wp2
        refine bodyPost_ret (results_none rfl _ _ _) rfl ?_
        exact ⟨⟨_, rfl⟩, .inr ⟨_, trivial, hx⟩⟩
end
section
open Go.RowKit
set_option linter.unusedSimpArgs false
set_option linter.unusedVariables false
set_option maxHeartbeats 1000000 in
theorem isForeign_any (w : World) (x : Nat) (hx : x ≤ 1114111) :
    Calls Tryz.prog 120 #[.int .i32 (x : Int)] w fun e w' => e = .returned (.bool (foreignR x)) ∧ ∃ q, w' = w.drewN q := by
  go_enter Tryz.func120, Tryz.ntmps120
  go_wp2
  all_goals
    go_ret
    refine ⟨congrArg (fun b => Ending.returned (Value.bool b)) ?_, 0, rfl⟩
    rw [Bool.eq_iff_iff]
    simp [foreignR]
    omega
/-- A text has a letter that has no place in a part just if it has such a byte. -/
theorem idxFunc_okB (s : ByteArray) : ∀ (f pos : Nat), s.size ≤ pos + f → (0 ≤ Lib.idxFuncFrom foreignR true s f pos ↔ (s.data.toList.drop pos).all okB = false)
  | 0, pos, h => by
    have : s.data.toList.drop pos = [] := List.drop_of_length_le (by simpa using h)
    rw [this]
    simp [Lib.idxFuncFrom]
  | f + 1, pos, h => by
    unfold Lib.idxFuncFrom
    by_cases hp : pos < s.size
    · rw [if_pos hp]
      have hp' : pos < s.data.toList.length := by simpa using hp
      have hb := List.getElem?_eq_getElem hp'
      obtain ⟨h1, h2⟩ := foreign_at s pos _ hb
      rw [List.drop_eq_getElem_cons hp', List.all_cons]
      cases ho : okB s.data.toList[pos] with
      | false =>
        rw [ho] at h1
        rw [if_pos (by rw [h1]; rfl)]
        simp
      | true =>
        rw [ho] at h1
        rw [if_neg (by rw [h1]; simp), h2 ho, idxFunc_okB s f (pos + 1) (by omega)]
        simp
    · rw [if_neg hp]
      have : s.data.toList.drop pos = [] := List.drop_of_length_le (by simpa using hp)
      rw [this]
      simp
theorem contains_any (w : World) (l : List UInt8) :
    Calls Tryz.prog 119 #[.string (strOf l), .func (.func 120) #[] #[]] w fun e w' => e = .returned (.bool (!l.all okB)) ∧ Below w.heap.size w w' := by
  refine (Any.strings_ContainsFunc_runes Tryz.laysGw17 120 #[] (enters_of Tryz.func120 (by kernel_rfl) rfl) foreignR (strOf l) w (fun W x hx _ => isForeign_any W x hx)).mono ?_
  rintro e w' ⟨rfl, h⟩
  refine ⟨?_, h⟩
  congr 2
  have := idxFunc_okB (strOf l) (strOf l).size 0 (by omega)
  rw [List.drop_zero, strOf_data] at this
  unfold Lib.idxFunc
  cases ha : l.all okB with
  | true =>
    rw [ha] at this
    simpa using this
  | false =>
    rw [ha] at this
    simpa using this
theorem partL_no {l : List UInt8} (h : l = [] ∨ 12 < l.length ∨ l = [46] ∨ l = [46, 46]) : partL 12 l = false := by
  rcases h with rfl | h | rfl | rfl
  · rfl
  · simp [partL]
    omega
  · rfl
  · rfl
theorem partL_yes {l : List UInt8} (h0 : l ≠ []) (h1 : l.length ≤ 12) (h2 : l ≠ [46]) (h3 : l ≠ [46, 46]) : partL 12 l = l.all okB := by
  have : 1 ≤ l.length := by
    cases l with
    | nil => exact absurd rfl h0
    | cons => simp
  rw [Bool.eq_iff_iff]
  simp [partL, h1, h2, h3, this]
set_option maxHeartbeats 1000000 in
theorem isPart_any (w : World) (l : List UInt8) :
    Calls Tryz.prog 100 #[.string (strOf l)] w fun e w' => e = .returned (.bool (partL 12 l)) ∧ Below w.heap.size w w' := by
  have hs := strOf_size l
  by_cases h : l = [] ∨ 12 < l.length ∨ l = [46] ∨ l = [46, 46]
  · rw [partL_no h]
    rcases h with h | h | h | h
    · subst h
      go_enter Tryz.func100, Tryz.ntmps100
      go_wp2_with fail
      go_ret
      exact ⟨rfl, Below.refl _ _⟩
    · have h1 : l ≠ [] := by rintro rfl; simp at h
      have h2 : (12 : Int) < ((strOf l).size : Int) := by omega
      have h3 : l.isEmpty = false := by simpa using h1
      go_enter Tryz.func100, Tryz.ntmps100
      go_wp2_with fail
      go_ret
      exact ⟨rfl, Below.refl _ _⟩
    · subst h
      go_enter Tryz.func100, Tryz.ntmps100
      go_wp2_with fail
      go_ret
      exact ⟨rfl, Below.refl _ _⟩
    · subst h
      go_enter Tryz.func100, Tryz.ntmps100
      go_wp2_with fail
      go_ret
      exact ⟨rfl, Below.refl _ _⟩
  · simp only [not_or] at h
    obtain ⟨h0, h1, h2, h3⟩ := h
    rw [partL_yes h0 (by omega) h2 h3]
    have e0 : l.isEmpty = false := by simpa using h0
    have e1 : ((strOf l).size : Int) ≤ 12 := by omega
    have e2 : (l == [46]) = false := by simpa using h2
    have e3 : (l == [46, 46]) = false := by simpa using h3
    have e4 : ¬ ((12 : Int) < ((strOf l).size : Int)) := by omega
    go_enter Tryz.func100, Tryz.ntmps100
    go_wp2_with fail
    refine (contains_any _ l).mono ?_
    rintro e w1 ⟨rfl, hb⟩
    go_wp2_with fail
    go_ret
    exact ⟨by simp, hb⟩
end
section
open Go.RowKit
set_option linter.unusedSimpArgs false
set_option linter.unusedVariables false
attribute [local go_sem] Oper.semAt_some
theorem wpIn_scope {P : Program} {n : Nat} {c : Code} {Q : Exit → Act → World → Prop} {a : Act} {w : World} (h : c.wpIn Fence.wide n P (Exit.noGoto Q) a w) : (Code.scope c).wpIn Fence.wide n P Q a w := wpIn_wide.2 (wp_scope_straight (wpIn_wide.1 h))
theorem below_others {W W' : World} (h : Below W.heap.size W W') : KeepsOthers W W' :=
  ⟨h.size, fun k o hk _ => (h.block k (Array.getElem?_eq_some_iff.1 hk).1).trans hk⟩
set_option maxHeartbeats 1000000 in
theorem splitSeq0_any (w : World) (l : List UInt8) : Calls Tryz.prog 118 #[.string (strOf l), .string ⟨#[47]⟩, .int .i64 0] w fun e w' =>
    e = .returned (.func (.func 137) #[] #[.pointer (some ⟨w.heap.size + 1, 0, none⟩), .pointer (some ⟨w.heap.size, 0, none⟩), .pointer (some ⟨w.heap.size + 2, 0, none⟩)]) ∧
    w' = ((w.alloc (.cells #[.string (strOf l)] 9)).alloc (.cells #[.string ⟨#[47]⟩] 9)).alloc (.cells #[.int .i64 0] 3) := by
  go_enter Tryz.func118, Tryz.ntmps118
  go_wp2
  go_ret
  exact ⟨by simp, rfl⟩
set_option maxHeartbeats 1000000 in
theorem splitSeq_any (w : World) (l : List UInt8) : Calls Tryz.prog 99 #[.string (strOf l), .string ⟨#[47]⟩] w fun e w' =>
    e = .returned (.func (.func 137) #[] #[.pointer (some ⟨w.heap.size + 1, 0, none⟩), .pointer (some ⟨w.heap.size, 0, none⟩), .pointer (some ⟨w.heap.size + 2, 0, none⟩)]) ∧
    w' = ((w.alloc (.cells #[.string (strOf l)] 9)).alloc (.cells #[.string ⟨#[47]⟩] 9)).alloc (.cells #[.int .i64 0] 3) := by
  go_enter Tryz.func99, Tryz.ntmps99
  go_wp2_with fail
  refine (splitSeq0_any _ l).mono ?_
  rintro e w1 ⟨rfl, rfl⟩
  go_wp2
  go_ret
  exact ⟨by simp, rfl⟩
theorem all_prefix {p : List UInt8 → Bool} {pre l : List (List UInt8)} {x : List UInt8} (h : (pre ++ [x]) <+: l) (hx : p x = false) : l.all p = false := by
  obtain ⟨t, rfl⟩ := h
  simp [hx]
theorem check_no1 {l : List UInt8} {pre : List (List UInt8)} {x : List UInt8} (h : (pre ++ [x]) <+: cutL l) (hx : partL 12 x = false) : checkL 6 12 l = false := by
  unfold checkL
  rw [all_prefix h hx, Bool.and_false]
theorem check_no2 {l : List UInt8} {pre : List (List UInt8)} {x : List UInt8} (h : (pre ++ [x]) <+: cutL l) (hx : 6 ≤ pre.length) : checkL 6 12 l = false := by
  unfold checkL
  have := h.length_le
  simp at this
  have : ¬ (cutL l).length ≤ 6 := by omega
  simp [this]
set_option maxRecDepth 100000 in
set_option maxHeartbeats 4000000 in
theorem phcheck_any (w : World) (l : List UInt8) (hlen : l.length ≤ 140737488351232) :
    Calls Tryz.prog 71 #[.string (strOf l)] w fun e w' => e = .returned (.int .i64 (if checkL 6 12 l then 0 else 2)) ∧ Below w.heap.size w w' := by
  have h1 : 1 ≤ 5 := by omega
  have hro : Fence.wide.round = none := rfl
  refine (callsIn_wide (n := 5)).1 ?_
  refine callsIn_of_wp_marks Tryz.func71 rfl trivial ?_ hro
  simp only [Tryz.ntmps71, List.size_toArray, List.length_cons, List.length_nil, Nat.reduceAdd, Nat.reduceSub, Array.replicate_succ, Array.replicate_zero, List.push_toArray, List.append_toArray, List.nil_append, List.cons_append]
  gi_wp2
  refine wpIn_scope ?_
  obtain ⟨w1, hw1, C1, b0, b1⟩ := news2 w (.cells #[.int .i64 0] 3) (.cells #[.int .i64 0] 36)
  gi_wp2
  refine wpIn_label ?_
  rw [← hw1]
  have hs1 : w1.heap.size = w.heap.size + 2 := by rw [hw1]; simp
  have bw1 : Below w.heap.size w w1 := by rw [hw1]; exact ((Below.refl _ w).alloc (Nat.le_refl _) _).alloc (by simp) _
  obtain ⟨V, hV, CV, v0, v1, v2⟩ := news3 w1 (.cells #[.string (strOf l)] 9) (.cells #[.string ⟨#[47]⟩] 9) (.cells #[.int .i64 0] 3)
  have hsV : V.heap.size = w1.heap.size + 3 := by rw [hV]; simp
  have bV : Below w1.heap.size w1 V := by rw [hV]; exact (((Below.refl _ w1).alloc (Nat.le_refl _) _).alloc (by simp) _).alloc (by simp; omega) _
  have b0' := (bV.block (w.heap.size) (by omega)).trans b0
  have b1' := (bV.block (w.heap.size + 1) (by omega)).trans b1
  have bwV : Below w.heap.size w V := bw1.trans ⟨bV.os, bV.tape, bV.output, bV.size, fun i hi => bV.block i (by omega)⟩
  have HW1 := Lib.hid hw1
  have HS1 := Lib.hid hs1
  clear hw1 b0 b1 bw1 C1 hs1
  gi_wp2_with (refine ⟨trivial, ?_⟩; gi_at_call 99; refine (callsIn_wide.2 (splitSeq_any _ l)).mono ?_; rintro e w2 ⟨rfl, rfl⟩)
  rw [← hV]
  have hs1 := HS1.out
  refine range_brk (gf := 137) (lb := #[.pointer (some ⟨w1.heap.size + 1, 0, none⟩), .pointer (some ⟨w1.heap.size, 0, none⟩), .pointer (some ⟨w1.heap.size + 2, 0, none⟩)]) rfl (enters_of Tryz.func137 (by kernel_rfl) rfl) (encs := fun x : List UInt8 => #[.string (strOf x)]) (n₁ := V.heap.size) (Nat.le_refl _)
    (S := fun ys => ys = cutL l) (Sp := fun _ => True) (Ex := fun pre x _ => (pre ++ [x]) <+: cutL l) (Si := [w1.heap.size]) (T := [w.heap.size, w.heap.size + 1]) ?si ?seq (fun _ => rfl)
    (fun pre W => (W.heap[w.heap.size]? = some (.cells #[.int .i64 (pre.length : Int)] 3 (0, 0)) ∧ W.heap[w.heap.size + 1]? = some (.cells #[.int .i64 0] 36 (0, 0))) ∧ (pre.length ≤ 6 ∧ pre.all (partL 12) = true) ∧ Below w.heap.size w W ∧ V.heap.size ≤ W.heap.size)
    (fun c pre W => c = .exit 0 ∧ W.heap[w.heap.size + 1]? = some (.cells #[.int .i64 2] 36 (0, 0)) ∧ checkL 6 12 l = false ∧ Below w.heap.size w W)
    ?keep ?keepx ⟨⟨by simpa using b0', b1'⟩, ⟨by simp, rfl⟩, bwV, Nat.le_refl _⟩ ?elem
    (fun x => { tmps := #[.string (strOf l), undef, .int .i64 0, .pointer (some ⟨w.heap.size, 0, none⟩), .pointer (some ⟨w.heap.size + 1, 0, none⟩), .string (strOf x), .string (strOf l), .func (.func 137) #[] #[.pointer (some ⟨w1.heap.size + 1, 0, none⟩), .pointer (some ⟨w1.heap.size, 0, none⟩), .pointer (some ⟨w1.heap.size + 2, 0, none⟩)], .string (strOf x), undef, undef, undef, undef, undef, undef, undef, undef, undef, undef], defers := [] }) ?assign ?body ?done ?stop
  case si => intro x hx; simp at hx; omega
  case seq =>
    intro l' J Jx W hW hJ hJx hY h0
    have hs2 := hW.size
    exact split1_gives 3 l' V.heap.size w1.heap.size (w1.heap.size + 1) (w1.heap.size + 2) [w.heap.size, w.heap.size + 1] l hlen J Jx W (by omega) (by omega) (by omega) (by omega) (by omega) (by simp; omega) (by simp; omega) (by simp; omega) (by omega) hJ hY
      ((hW.cell (p := ⟨w1.heap.size + 1, 0, none⟩) (show w1.heap.size + 1 < V.heap.size by omega)).trans (by rw [cell_of v1]; rfl)) ((hW.block _ (by omega)).trans v0) ((hW.cell (p := ⟨w1.heap.size + 2, 0, none⟩) (show w1.heap.size + 2 < V.heap.size by omega)).trans (by rw [cell_of v2]; rfl)) h0
  case keep =>
    rintro pre A' B' ⟨⟨e4, e5⟩, hp, b, hz⟩ hb
    exact ⟨⟨(hb.block _ (by omega) (by simp; omega)).trans e4, (hb.block _ (by omega) (by simp; omega)).trans e5⟩, hp, b.trans ⟨hb.os, hb.tape, hb.output, hb.size, fun k hk => hb.block k (by omega) (by simp; omega)⟩, Nat.le_trans hz hb.size⟩
  case keepx =>
    rintro c pre A' B' ⟨hc, e5, hp, b⟩ hb
    exact ⟨hc, (hb.block _ (by omega) (by simp; omega)).trans e5, hp, b.trans ⟨hb.os, hb.tape, hb.output, hb.size, fun k hk => hb.block k (by omega) (by simp; omega)⟩⟩
  case elem =>
    rintro pre x W l o o' hl ho hx
    exact hx
  case assign =>
    intro l x W K hK
    clear hs1
    gi_wp2
    exact hK
  case body =>
    rintro l' pre x W ⟨⟨e4, e5⟩, ⟨hp1, hp2⟩, b, hz⟩ hx
    have c4 := cell_of e4 0
    have f4 := free_of e4 0
    have c5 := cell_of e5 0
    have f5 := free_of e5 0
    simp only [List.getElem?_toArray, List.getElem?_cons_zero] at c4 c5
    have q4 : (W.setCell ⟨w.heap.size, 0, none⟩ (.int .i64 ((pre.length : Int) + 1))).heap[w.heap.size]? = some (.cells #[.int .i64 ((pre.length : Int) + 1)] 3 (0, 0)) := by simpa using heap_setCell_same W w.heap.size 0 _ _ (.int .i64 ((pre.length : Int) + 1)) e4
    have q5 : (W.setCell ⟨w.heap.size, 0, none⟩ (.int .i64 ((pre.length : Int) + 1))).heap[w.heap.size + 1]? = some (.cells #[.int .i64 0] 36 (0, 0)) := (heap_setCell_other W ⟨w.heap.size, 0, none⟩ (w.heap.size + 1) _ (by simp)).trans e5
    have bW : Below w.heap.size w (W.setCell ⟨w.heap.size, 0, none⟩ (.int .i64 ((pre.length : Int) + 1))) := b.setCell (p := ⟨w.heap.size, 0, none⟩) (Nat.le_refl _) _
    have HX := Lib.hid hx
    have HP := Lib.hid hp2
    have BW := Lib.hid bW
    have Q4 := Lib.hid q4
    have Q5 := Lib.hid q5
    have HZ := Lib.hid hz
    have KW := Lib.hid ((Chg.refl [w.heap.size] W).setCell (p := ⟨w.heap.size, 0, none⟩) (.inl (by simp)) (.int .i64 ((pre.length : Int) + 1)))
    clear hs1 hx hp2 b e4 e5 q4 q5 bW hz
    have k0 : IntKind.i64.wrap ((pre.length : Int) + 1) = (pre.length : Int) + 1 := IntWalk.i64_in _ (by omega)
    by_cases h6 : 6 ≤ pre.length
    · have i6 : (6 : Int) < (pre.length : Int) + 1 := by omega
      gi_wp2_with (refine ⟨trivial, ?_⟩)
      exact ⟨(KeepsOthers.setCell _ _ _).trans (KeepsOthers.setCell _ _ _), rfl, by simpa using heap_setCell_same _ (w.heap.size + 1) 0 _ _ (.int .i64 2) Q5.out, check_no2 HX.out h6, BW.out.setCell (p := ⟨w.heap.size + 1, 0, none⟩) (Nat.le_succ _) _⟩
    · have i6 : ¬ ((6 : Int) < (pre.length : Int) + 1) := by omega
      have i7 : (pre.length : Int) + 1 ≤ 6 := by omega
      cases hpx : partL 12 x with
      | false =>
        have PX := Lib.hid (fun w => hpx ▸ isPart_any w x)
        have HPX := Lib.hid hpx
        clear hpx
        gi_wp2_with (refine ⟨trivial, ?_⟩; gi_at_call 100; refine (CallsIn.inRound l' (callsIn_wide.2 (PX.out _))).mono ?_; rintro e w9 ⟨rfl, hb9⟩; have p5 := (hb9.block (w.heap.size + 1) (lt_of_heap Q5.out)).trans Q5.out; have c59 := cell_of p5 0; simp only [List.getElem?_toArray, List.getElem?_cons_zero] at c59; have f59 := free_of p5 0; have P5 := Lib.hid p5; have P4 := Lib.hid ((hb9.block w.heap.size (lt_of_heap Q4.out)).trans Q4.out); have HB9 := Lib.hid hb9; clear p5 hb9)
        have hbw : Below w.heap.size w w9 := BW.out.trans ⟨HB9.out.os, HB9.out.tape, HB9.out.output, HB9.out.size, fun i hi => HB9.out.block i (Nat.lt_of_lt_of_le hi BW.out.size)⟩
        exact ⟨((KeepsOthers.setCell _ _ _).trans (below_others HB9.out)).trans (KeepsOthers.setCell _ _ _), rfl, by simpa using heap_setCell_same w9 (w.heap.size + 1) 0 _ _ (.int .i64 2) P5.out, check_no1 HX.out HPX.out, hbw.setCell (p := ⟨w.heap.size + 1, 0, none⟩) (Nat.le_succ _) _⟩
      | true =>
        have PX := Lib.hid (fun w => hpx ▸ isPart_any w x)
        have HPX := Lib.hid hpx
        clear hpx
        gi_wp2_with (refine ⟨trivial, ?_⟩; gi_at_call 100; refine (CallsIn.inRound l' (callsIn_wide.2 (PX.out _))).mono ?_; rintro e w9 ⟨rfl, hb9⟩; have p5 := (hb9.block (w.heap.size + 1) (lt_of_heap Q5.out)).trans Q5.out; have c59 := cell_of p5 0; simp only [List.getElem?_toArray, List.getElem?_cons_zero] at c59; have f59 := free_of p5 0; have P5 := Lib.hid p5; have P4 := Lib.hid ((hb9.block w.heap.size (lt_of_heap Q4.out)).trans Q4.out); have HB9 := Lib.hid hb9; clear p5 hb9)
        have hbw : Below w.heap.size w w9 := BW.out.trans ⟨HB9.out.os, HB9.out.tape, HB9.out.output, HB9.out.size, fun i hi => HB9.out.block i (Nat.lt_of_lt_of_le hi BW.out.size)⟩
        refine ⟨(KeepsOthers.setCell _ _ _).trans (below_others HB9.out), ?_, ⟨⟨by simpa using P4.out, P5.out⟩, ⟨by simp; omega, by simp [HPX.out]; simpa using HP.out⟩, hbw, ?_⟩⟩
        · exact ((Kpt.of_chg KW.out HZ.out).mono (Nat.le_refl _) (by simp)).trans (Kpt.of_below HB9.out (Nat.le_trans HZ.out KW.out.size))
        · exact Nat.le_trans HZ.out (Nat.le_trans KW.out.size HB9.out.size)
  case done =>
    rintro D ys W hD rfl ⟨⟨_, e5⟩, ⟨hp1, hp2⟩, hB, _⟩ hK
    have hck : checkL 6 12 l = true := by simp [checkL, hp1, hp2]
    have c5 := cell_of e5 0
    simp at c5
    have HC := Lib.hid hck
    clear hs1 hck
    gi_wp2
    refine ⟨by simp, .inl ⟨_, _, rfl, run_takeDeferred hK, ?_⟩⟩
    exact ⟨_, results_tmp rfl _ _ _, by rw [HC.out]; rfl, hB.trans (belowK_b (w := w) (Nat.le_refl _) W D _ _ (by have := HS1.out; omega) hK rfl rfl)⟩
  case stop =>
    rintro D c ys W hD _ ⟨rfl, e5, hck, hB⟩ hK
    have c5 := cell_of e5 0
    simp at c5
    have HC := Lib.hid hck
    clear hs1 hck
    refine wpIn_exit ?_
    gi_wp2
    refine ⟨by simp, .inl ⟨_, _, rfl, run_takeDeferred hK, ?_⟩⟩
    exact ⟨_, results_tmp rfl _ _ _, by rw [HC.out]; rfl, hB.trans (belowK_b (w := w) (Nat.le_refl _) W D _ _ (by have := HS1.out; omega) hK rfl rfl)⟩
end
section
open Go.RowKit
set_option linter.unusedSimpArgs false
set_option linter.unusedVariables false
theorem okB_iff (b : UInt8) : okB b = true ↔ (97 ≤ (b.toNat : Int) ∧ (b.toNat : Int) ≤ 122) ∨ (48 ≤ (b.toNat : Int) ∧ (b.toNat : Int) ≤ 57) ∨ (b.toNat : Int) = 46 ∨ (b.toNat : Int) = 95 ∨ (b.toNat : Int) = 45 := by
  have h := foreign_byte b
  have : okB b = !foreignR b.toNat := by rw [h]; simp
  rw [this]
  simp [foreignR]
  omega
theorem okB_not (b : UInt8) : okB b = false ↔ ¬ ((97 ≤ (b.toNat : Int) ∧ (b.toNat : Int) ≤ 122) ∨ (48 ≤ (b.toNat : Int) ∧ (b.toNat : Int) ≤ 57) ∨ (b.toNat : Int) = 46 ∨ (b.toNat : Int) = 95 ∨ (b.toNat : Int) = 45) := by
  rw [← okB_iff]
  simp
theorem part_bad {l : List UInt8} {k : Nat} (h : k < l.length) (hb : okB l[k] = false) : partL 12 l = false := by
  have : l.all okB = false := by
    rw [List.all_eq_false]
    exact ⟨l[k], List.getElem_mem h, by simp [hb]⟩
  simp [partL, this]
theorem strOf_get (l : List UInt8) (k : Nat) (h : k < (strOf l).size) (h' : k < l.length) : (strOf l)[k] = l[k] := by
  show (strOf l).data[k] = l[k]
  simp [strOf]
set_option maxHeartbeats 4000000 in
theorem qpart_any (w : World) (l : List UInt8) (hlen : l.length ≤ 140737488351232) :
    Calls Tryz.prog 87 #[.string (strOf l)] w fun e w' => e = .returned (.bool (partL 12 l)) ∧ w' = w := by
  have hs := strOf_size l
  go_enter Tryz.func87, Tryz.ntmps87
  go_wp2
  go_loopw [3, 4] (fun v3 v4 wr => ∃ k : Nat, k ≤ l.length ∧ v3 = .int .i64 (k : Int) ∧ (l.take k).all okB = true ∧ wr = w) (fun v3 _ _ => l.length - (RowKit.intOf v3).toNat)
  case atStart => exact ⟨0, Nat.zero_le _, rfl, rfl, rfl⟩
  case round =>
    obtain ⟨k, hk, rfl, hall, rfl⟩ := hrel
    by_cases hlt : k < l.length
    · have ex := List.getElem?_eq_getElem hlt
      have i0 : (0 : Int) ≤ (k : Int) := by omega
      have i1 : (k : Int) < ((strOf l).size : Int) := by omega
      have hb := strOf_get l k (by omega) hlt
      have HB := Lib.hid hb
      have HA := Lib.hid hall
      clear hb hall ex
      go_wp2
      all_goals (try simp only [bne_iff_ne, ne_eq, bne_eq_false_iff_eq] at *)
      all_goals first
        | (go_ret; exact ⟨by rw [part_bad hlt (by rw [← HB.out, okB_not]; omega)]; rfl, rfl⟩)
        | (refine ⟨⟨k + 1, by omega, by simp, ?_, trivial⟩, by simp [RowKit.intOf]; omega⟩
           have ho : okB l[k] = true := by rw [← HB.out, okB_iff]; omega
           rw [List.take_succ_eq_append_getElem hlt, List.all_append, HA.out]
           simp [ho])
    · obtain rfl : k = l.length := by omega
      rw [List.take_length] at hall
      have HA := Lib.hid hall
      clear hall
      go_wp2
      all_goals (try simp only [bne_iff_ne, ne_eq, bne_eq_false_iff_eq] at *)
      all_goals
        go_ret
        refine ⟨congrArg (fun b => Ending.returned (Value.bool b)) ?_, rfl⟩
        rw [Bool.eq_iff_iff]
        simp [partL, HA.out]
      all_goals first
        | (intros; omega)
        | (intro a b c; exact absurd (by assumption) c)
end
section
open Go.RowKit
set_option linter.unusedSimpArgs false
set_option linter.unusedVariables false
theorem own_app {w w6 w7 : World} {B A2 : Option Addr} (hB : ∀ a, B = some a → w.heap.size ≤ a.block) (hC : Chg [] w w6) (d2 : w6.grownBy w7 (B.map (·.block))) (e2 : A2 = B ∨ A2 = some ⟨w6.heap.size, 0, none⟩) : (∀ a, A2 = some a → w.heap.size ≤ a.block) ∧ Chg [] w w7 := by
  refine ⟨?_, hC.grown d2 (fun i hi => ?_)⟩
  · rcases e2 with rfl | rfl
    · exact hB
    · rintro a ⟨⟩; exact hC.size
  · cases B with
    | none => simp at hi
    | some a => simp at hi; subst hi; exact .inr (hB a rfl)
/-- A loop that goes through a text, with the piece under way between from and i. -/
theorem cut_mid (l : List UInt8) (fr i : Nat) (hi : i < l.length) (hfi : fr ≤ i) :
    cutA ((l.drop fr).take (i - fr)) (l.drop i) = if l[i] = 47 then (l.drop fr).take (i - fr) :: cutA ((l.drop (i + 1)).take 0) (l.drop (i + 1)) else cutA ((l.drop fr).take (i + 1 - fr)) (l.drop (i + 1)) := by
  rw [List.drop_eq_getElem_cons hi, cutA]
  split
  · simp
  · congr 1
    rw [show i + 1 - fr = (i - fr) + 1 by omega, List.take_succ_eq_append_getElem (by simp; omega)]
    congr 2
    rw [List.getElem_drop]
    congr 1
    omega
set_option maxRecDepth 100000 in
set_option maxHeartbeats 4000000 in
theorem qcut_any (w : World) (l : List UInt8) (hlen : l.length ≤ 10000000) :
    Calls Tryz.prog 86 #[.string (strOf l)] w fun e w' => ∃ A c, e = .returned (.slice A (cutL l).length c) ∧ OwnK textTy w' A c (cutL l) ∧ (∀ a, A = some a → w.heap.size ≤ a.block) ∧ Chg [] w w' := by
  have hs := strOf_size l
  go_enter Tryz.func86, Tryz.ntmps86
  go_wp2
  go_loopw [3, 4, 5] (fun v3 v4 v5 wr => ∃ (i fr : Nat) (out : List (List UInt8)) (B : Option Addr) (c : Nat), i ≤ l.length ∧ fr ≤ i ∧ v3 = .slice B out.length c ∧ v4 = .int .i64 (fr : Int) ∧ v5 = .int .i64 (i : Int) ∧ Hid (out ++ cutA ((l.drop fr).take (i - fr)) (l.drop i) = cutL l ∧ out.length ≤ i) ∧ Hid (OwnK textTy wr B c out ∧ (∀ a, B = some a → w.heap.size ≤ a.block) ∧ Chg [] w wr)) (fun _ _ v5 _ => l.length - (RowKit.intOf v5).toNat)
  case atStart => exact ⟨0, 0, [], none, 0, Nat.zero_le _, Nat.le_refl _, rfl, rfl, rfl, ⟨rfl, Nat.le_refl _⟩, OwnK.none_ _, by simp, Chg.refl _ _⟩
  case round =>
    obtain ⟨i, fr, out, B, c, hi, hfi, rfl, rfl, rfl, HC, HI⟩ := hrel
    by_cases hlt : i < l.length
    · have hm := cut_mid l fr i hlt hfi
      have hb := strOf_get l i (by omega) hlt
      have i0 : (0 : Int) ≤ (i : Int) := by omega
      have i1 : (i : Int) < ((strOf l).size : Int) := by omega
      have k1 : IntKind.i64.wrap ((i : Int) + 1) = (i : Int) + 1 := IntWalk.i64_in _ (by omega)
      by_cases h47 : l[i] = 47
      · rw [if_pos h47] at hm
        have HM := Lib.hid hm
        have hb2 : (((strOf l)[i].toNat : Int) == 47) = true := by rw [hb, h47]; rfl
        clear hm h47 hb
        have i2 : (fr : Int) ≤ (i : Int) := by omega
        have i3 : (i : Int) ≤ ((strOf l).size : Int) := by omega
        have i4 : (0 : Int) ≤ (fr : Int) := by omega
        have i5 : i ≤ (strOf l).size := by omega
        have ee : (strOf l).extract fr i = strOf ((l.drop fr).take (i - fr)) := strOf_ext l fr i
        generalize (l.drop fr).take (i - fr) = p at *
        obtain ⟨w5, hw5, c5, b5⟩ := news1 wr (.cells #[.string (strOf p)] 9)
        have W5 := Lib.hid hw5
        have R5 := Lib.hid (OwnK.of (R := textTy) (c := 1) (full := [p]) (xs := [p]) b5 (Nat.le_refl _) (by decide) rfl rfl).reads
        have O5 := Lib.hid (HI.out.1.chg c5 (by simp))
        have BND := Lib.hid (show (out.length + 1) * 400 ≤ 140737488355327 by have := HC.out.2; omega)
        have C5 := Lib.hid (HI.out.2.2.trans c5)
        clear hw5 c5 b5
        go_wp2_with (at_builtin; rw [← W5.out]; refine wpList_appK (R := textTy) rfl _ _ rfl rfl O5.out rfl rfl R5.out BND.out ?_; intro A2 c2 w7 u2 d2 e2)
        have AO := own_app (w := w) HI.out.2.1 C5.out d2 e2
        refine ⟨⟨i + 1, i + 1, out ++ [p], A2, c2, by omega, Nat.le_refl _, by simp, by simp, by simp, ⟨?_, ?_⟩, ⟨u2, AO.1, AO.2⟩⟩, by simp [RowKit.intOf]; omega⟩
        · rw [← HC.out.1, HM.out, Nat.sub_self]
          simp
        · have := HC.out.2
          simp
          omega
      · rw [if_neg h47] at hm
        have HM := Lib.hid hm
        have hb2 : (((strOf l)[i].toNat : Int) == 47) = false := by
          rw [hb, beq_eq_false_iff_ne]
          intro e
          have : l[i].toNat = (47 : UInt8).toNat := by rw [show (47 : UInt8).toNat = 47 from rfl]; omega
          exact h47 (UInt8.toNat_inj.1 this)
        clear hm h47 hb
        go_wp2
        exact ⟨⟨i + 1, fr, out, B, c, by omega, by omega, rfl, rfl, by simp, ⟨by rw [← HC.out.1, HM.out], by have := HC.out.2; omega⟩, HI⟩, by simp [RowKit.intOf]; omega⟩
    · obtain rfl : i = l.length := by omega
      have hp : (l.drop fr).take (l.length - fr) = l.drop fr := List.take_of_length_le (by simp)
      have hc := HC.out.1
      rw [hp, List.drop_length, cutA] at hc
      have i2 : (fr : Int) ≤ ((strOf l).size : Int) := by omega
      have i4 : (0 : Int) ≤ (fr : Int) := by omega
      have i5 : fr ≤ (strOf l).size := by omega
      have ee : (strOf l).extract fr (strOf l).size = strOf (l.drop fr) := by rw [strOf_ext, hs, hp]
      rw [hs] at ee
      generalize l.drop fr = p at *
      obtain ⟨w5, hw5, c5, b5⟩ := news1 wr (.cells #[.string (strOf p)] 9)
      have W5 := Lib.hid hw5
      have R5 := Lib.hid (OwnK.of (R := textTy) (c := 1) (full := [p]) (xs := [p]) b5 (Nat.le_refl _) (by decide) rfl rfl).reads
      have O5 := Lib.hid (HI.out.1.chg c5 (by simp))
      have BND := Lib.hid (show (out.length + 1) * 400 ≤ 140737488355327 by have := HC.out.2; omega)
      have C5 := Lib.hid (HI.out.2.2.trans c5)
      have HC2 := Lib.hid hc
      clear hw5 c5 b5 hc hp HC
      go_wp2_with (at_builtin; rw [← W5.out]; refine wpList_appK (R := textTy) rfl _ _ rfl rfl O5.out rfl rfl R5.out BND.out ?_; intro A2 c2 w7 u2 d2 e2)
      go_ret
      have AO := own_app (w := w) HI.out.2.1 C5.out d2 e2
      exact ⟨A2, c2, by rw [← HC2.out]; simp, by rw [← HC2.out]; exact u2, AO.1, AO.2⟩
end
section
open Go.RowKit
set_option linter.unusedSimpArgs false
set_option linter.unusedVariables false
theorem cutA_short : ∀ (l acc x : List UInt8), x ∈ cutA acc l → x.length ≤ acc.length + l.length
  | [], acc, x, h => by simp [cutA] at h; subst h; simp
  | b :: l, acc, x, h => by
    unfold cutA at h
    split at h
    · rcases List.mem_cons.1 h with rfl | h
      · omega
      · have := cutA_short l [] x h
        simp at this
        simp
        omega
    · have := cutA_short l _ x h
      simp at this
      simp
      omega
theorem all_bad {xs : List (List UInt8)} {k : Nat} (h : k < xs.length) (hb : partL 12 xs[k] = false) : xs.all (partL 12) = false := by
  rw [List.all_eq_false]
  exact ⟨xs[k], List.getElem_mem h, by simp [hb]⟩
set_option maxRecDepth 100000 in
set_option maxHeartbeats 4000000 in
theorem qcheck_any (w : World) (l : List UInt8) (hlen : l.length ≤ 10000000) :
    Calls Tryz.prog 44 #[.string (strOf l)] w fun e w' => e = .returned (.int .i64 (if checkL 6 12 l then 0 else 2)) ∧ Chg [] w w' := by
  have hne := cutA_ne [] l
  have hxl : ∀ x ∈ cutL l, x.length ≤ 10000000 := fun x hx => by have := cutA_short l [] x hx; simp at this; omega
  have hxs := cutA_len l []
  have hck : checkL 6 12 l = (decide ((cutL l).length ≤ 6) && (cutL l).all (partL 12)) := rfl
  rw [hck]
  rw [show cutA [] l = cutL l from rfl] at hne hxs
  have QC := Lib.hid (fun w => qcut_any w l hlen)
  clear hck
  generalize cutL l = xs at *
  obtain ⟨v, hv⟩ : ∃ v : Int, v = if (decide (xs.length ≤ 6) && xs.all (partL 12)) = true then 0 else 2 := ⟨_, rfl⟩
  rw [← hv]
  have HV := Lib.hid hv
  have HX := Lib.hid hxl
  clear hv hxl
  go_enter Tryz.func44, Tryz.ntmps44
  go_wp2_with fail
  refine (QC.out _).mono ?_
  rintro e w1 ⟨A, c, rfl, own, hA, hc⟩
  have OW := Lib.hid own
  have HC := Lib.hid hc
  clear own hA hc
  by_cases h6 : 6 < xs.length
  · have i6 : (6 : Int) < (xs.length : Int) := by omega
    have i7 : ¬ xs.length ≤ 6 := by omega
    go_wp2
    go_ret
    exact ⟨by rw [HV.out]; simp [i7], HC.out⟩
  · have i6 : ¬ ((6 : Int) < (xs.length : Int)) := by omega
    have i7 : xs.length ≤ 6 := by omega
    go_wp2
    go_loopw [4] (fun v4 wr => ∃ k : Nat, k ≤ xs.length ∧ v4 = .int .i64 (k : Int) ∧ Hid ((xs.take k).all (partL 12) = true) ∧ Hid (Chg [] w1 wr)) (fun v4 _ => xs.length - (RowKit.intOf v4).toNat)
    case atStart => exact ⟨0, Nat.zero_le _, rfl, rfl, Chg.refl _ _⟩
    case round =>
      obtain ⟨k, hk, rfl, HA, HI⟩ := hrel
      by_cases hlt : k < xs.length
      · obtain ⟨g, o, eA, _⟩ := OW.out.reads.line (by omega)
        subst eA
        have ex := List.getElem?_eq_getElem hlt
        have z := textCells (OW.out.reads.chg HI.out (by simp)) ex
        have HB := Lib.hid (fun h => all_bad (xs := xs) hlt h)
        have HL := Lib.hid (HX.out xs[k] (List.getElem_mem hlt))
        have HT := Lib.hid (List.take_succ_eq_append_getElem hlt)
        generalize xs[k] = x at *
        have i0 : (0 : Int) ≤ (k : Int) := by omega
        have i1 : (k : Int) < (xs.length : Int) := by omega
        have k1 : IntKind.i64.wrap ((k : Int) + 1) = (k : Int) + 1 := IntWalk.i64_in _ (by omega)
        clear ex
        cases hp : partL 12 x with
        | false =>
          have HP := Lib.hid (fun w => hp ▸ qpart_any w x (by have := HL.out; omega))
          have HF := Lib.hid (HB.out hp)
          clear hp
          go_wp2_with fail
          refine (HP.out _).mono ?_
          rintro e w3 ⟨rfl, rfl⟩
          go_wp2
          go_ret
          exact ⟨by rw [HV.out, HF.out]; simp, HC.out.trans HI.out⟩
        | true =>
          have HP := Lib.hid (fun w => hp ▸ qpart_any w x (by have := HL.out; omega))
          have HQ := Lib.hid hp
          clear hp
          go_wp2_with fail
          refine (HP.out _).mono ?_
          rintro e w3 ⟨rfl, rfl⟩
          go_wp2
          exact ⟨⟨k + 1, by omega, by simp, Lib.hid (by rw [HT.out, List.all_append, HA.out]; simp [HQ.out]), HI⟩, by simp [RowKit.intOf]; omega⟩
      · obtain rfl : k = xs.length := by omega
        go_wp2
        go_ret
        exact ⟨by have := HA.out; rw [List.take_length] at this; rw [HV.out, this]; simp [i7], HC.out.trans HI.out⟩
end
section
open Go.RowKit
set_option linter.unusedSimpArgs false
set_option linter.unusedVariables false
def okP (l : List UInt8) : Bool := checkL 6 12 l
def underL (a b : List UInt8) : Bool := okP a && okP b && (a ++ [47]).isPrefixOf b
theorem isPath_any (w : World) (l : List UInt8) (hlen : l.length ≤ 140737488351232) :
    Calls Tryz.prog 70 #[.string (strOf l)] w fun e w' => e = .returned (.bool (okP l)) ∧ Below w.heap.size w w' := by
  obtain ⟨p, hp⟩ : ∃ p, okP l = p := ⟨_, rfl⟩
  have HC := Lib.hid (fun w => phcheck_any w l hlen)
  rw [show checkL 6 12 l = p from hp] at HC
  rw [hp]
  go_enter Tryz.func70, Tryz.ntmps70
  go_wp2_with fail
  refine (HC.out _).mono ?_
  rintro e w1 ⟨rfl, hb⟩
  cases p
  · go_wp2
    go_ret
    exact ⟨rfl, hb⟩
  · go_wp2
    go_ret
    exact ⟨rfl, hb⟩
theorem cutPrefix_any (w : World) (a b : List UInt8) : Calls Tryz.prog 68 #[.string (strOf b), .string (strOf a)] w fun e w' => e = .returned (.tuple #[.string (strOf (Lib.trimPrefix b a)), .bool (a.isPrefixOf b)]) ∧ w' = w := by
  refine (Any.strings_CutPrefix Tryz.lays103 (strOf b) (strOf a) w).mono ?_
  rintro e w' ⟨rfl, rfl⟩
  rw [strOf_data, strOf_data]
  exact ⟨rfl, rfl⟩
theorem hasSlash_any (w : World) (b : List UInt8) : Calls Tryz.prog 69 #[.string (strOf b), .string ⟨#[47]⟩] w fun e w' => e = .returned (.bool ([47].isPrefixOf b)) ∧ w' = w := by
  refine (Any.strings_HasPrefix Tryz.lays99 (strOf b) ⟨#[47]⟩ w).mono ?_
  rintro e w' ⟨rfl, rfl⟩
  rw [strOf_data]
  exact ⟨rfl, rfl⟩
theorem prefix_slash (a b : List UInt8) : (a ++ [47]).isPrefixOf b = (a.isPrefixOf b && [47].isPrefixOf (Lib.trimPrefix b a)) := by
  unfold Lib.trimPrefix Lib.hasPrefix
  rw [Bool.eq_iff_iff]
  simp only [List.isPrefixOf_iff_prefix, Bool.and_eq_true]
  constructor
  · rintro ⟨t, rfl⟩
    have : a <+: a ++ [47] ++ t := ⟨[47] ++ t, by simp⟩
    refine ⟨this, ?_⟩
    rw [if_pos this]
    exact ⟨t, by simp⟩
  · rintro ⟨h, h2⟩
    rw [if_pos h] at h2
    obtain ⟨t, rfl⟩ := h
    obtain ⟨u, hu⟩ := h2
    rw [List.drop_left] at hu
    exact ⟨u, by rw [← hu]; simp⟩
set_option maxHeartbeats 1000000 in
theorem phunder_any (w : World) (a b : List UInt8) (ha : a.length ≤ 140737488351232) (hb : b.length ≤ 140737488351232) :
    Calls Tryz.prog 30 #[.string (strOf a), .string (strOf b)] w fun e w' => e = .returned (.bool (underL a b)) ∧ Below w.heap.size w w' := by
  have hu : underL a b = (a.isPrefixOf b && [47].isPrefixOf (Lib.trimPrefix b a) && okP a && okP b) := by
    unfold underL
    rw [prefix_slash]
    cases okP a <;> cases okP b <;> simp
  rw [hu]
  have C1 := Lib.hid (fun w => cutPrefix_any w a b)
  have C2 := Lib.hid (fun w => hasSlash_any w (Lib.trimPrefix b a))
  have C3 := Lib.hid (fun w => isPath_any w a ha)
  have C4 := Lib.hid (fun w => isPath_any w b hb)
  clear hu
  generalize Lib.trimPrefix b a = r at *
  generalize a.isPrefixOf b = p1 at *
  generalize [47].isPrefixOf r = p2 at *
  generalize okP a = p3 at *
  generalize okP b = p4 at *
  cases p1
  · go_enter Tryz.func30, Tryz.ntmps30
    go_wp2_with fail
    refine (C1.out _).mono ?_
    rintro e w1 ⟨rfl, rfl⟩
    go_wp2
    go_ret
    exact ⟨rfl, Below.refl _ _⟩
  cases p2
  · go_enter Tryz.func30, Tryz.ntmps30
    go_wp2_with fail
    refine (C1.out _).mono ?_
    rintro e w1 ⟨rfl, rfl⟩
    go_wp2_with fail
    refine (C2.out _).mono ?_
    rintro e w1 ⟨rfl, rfl⟩
    go_wp2
    go_ret
    exact ⟨rfl, Below.refl _ _⟩
  cases p3
  · go_enter Tryz.func30, Tryz.ntmps30
    go_wp2_with fail
    refine (C1.out _).mono ?_
    rintro e w1 ⟨rfl, rfl⟩
    go_wp2_with fail
    refine (C2.out _).mono ?_
    rintro e w1 ⟨rfl, rfl⟩
    go_wp2_with fail
    refine (C3.out _).mono ?_
    rintro e w2 ⟨rfl, hb⟩
    go_wp2
    go_ret
    exact ⟨rfl, hb⟩
  · go_enter Tryz.func30, Tryz.ntmps30
    go_wp2_with fail
    refine (C1.out _).mono ?_
    rintro e w1 ⟨rfl, rfl⟩
    go_wp2_with fail
    refine (C2.out _).mono ?_
    rintro e w1 ⟨rfl, rfl⟩
    go_wp2_with fail
    refine (C3.out _).mono ?_
    rintro e w2 ⟨rfl, hb2⟩
    go_wp2_with fail
    refine (C4.out _).mono ?_
    rintro e w3 ⟨rfl, hb3⟩
    go_wp2
    go_ret
    exact ⟨by simp, hb2.trans ⟨hb3.os, hb3.tape, hb3.output, hb3.size, fun k hk => hb3.block k (Nat.lt_of_lt_of_le hk hb2.size)⟩⟩
end
section
open Go.RowKit
set_option linter.unusedSimpArgs false
set_option linter.unusedVariables false
theorem str_ne {a b : List UInt8} (h : a ≠ b) : strOf a ≠ strOf b := fun e => h (strOf_inj e)
end
end Go.Proofs.YtimdfpejgaidhaaGreatDoor
