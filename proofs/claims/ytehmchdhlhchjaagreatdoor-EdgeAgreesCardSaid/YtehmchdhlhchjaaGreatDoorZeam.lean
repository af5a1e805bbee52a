/- The kit's CopyEvents. Lists of events in memory of their own. As XRangeo, over a method as a value (bound arguments), whose round begins with a box of its own for what was handed over. A range over a function whose body also makes memory of its own (a row that grows): the iterator promises to leave alone all that there is but its own blocks. No program here. Events gone through by slices.Values, and gathered anew. A row of nil has no elements. A row that the library has sorted, or cleared from some place on. slices.SortFunc at structs under a 'cmp' that need not part any two: what was there, in order. Events by their dots. copy into a row of structs. No function of the program is named here. slices.Insert of one event. slices.Grow of nothing, slices.Concat of rows of events. -/
import Derived.Test.YtehmchdhlhchjaaGreatDoorZeag
import Derived.Test.YtehmchdhlhchjaaGreatDoorZeal
import Derived.Deep.Cut
import Derived.Test.YtehmchdhlhchjaaGreatDoorZeab
import Derived.Test.YtehmchdhlhchjaaGreatDoorZeaa
import Derived.Test.YtehmchdhlhchjaaGreatDoorZeaf
import Derived.Sort.CutIn
import Derived.Shelf.SlSortCmp.NoneTotal
import Derived.Lib.SlicesCompact
import Derived.Lib.SliceRun
import Derived.Deep.RegionHeld3
import Derived.Lib.Overlaps
import Derived.Lib.AppendZerosOnto
import Derived.BigQuiet
set_option linter.unusedSimpArgs false
set_option linter.unusedVariables false
set_option maxHeartbeats 32000000
namespace Go.Proofs.YtehmchdhlhchjaaGreatDoor
section
open Go.RowKit Go.Lib


theorem fresh_appE {w2 w w' : World} {A A' : Option Addr} (hA : ∀ a, A = some a → w2.heap.size ≤ a.block) (hC : Chg [] w2 w) (g : w.grownBy w' (A.map (·.block))) (e : A' = A ∨ A' = some ⟨w.heap.size, 0, none⟩) :
  (∀ a, A' = some a → w2.heap.size ≤ a.block) ∧ Chg [] w2 w' := by
 refine ⟨?_, hC.grown g ?_⟩
 ·
  rintro a ha
  rcases e with rfl | rfl
  ·
   exact hA a ha
  ·
   cases ha; exact hC.size
 ·
  rintro i hi
  cases A with
  | none => simp at hi
  | some a => simp at hi; subst hi; exact .inr (hA a rfl)
theorem rd_oneEc {w : World} {g : Nat} {X : EvT} (h : w.heap[g]? = some (.cells #[.int .i64 X.n, .int .i64 X.s, .string X.p, .int .i64 X.k, .int .i64 X.m, .slice X.A X.l X.c, .slice X.B X.bl X.bc] 40)) : RdK evTy w (some ⟨g, 0, none⟩) 1 [X] :=
 ⟨rfl, fun j v hj => ⟨_, rfl, by rw [add_zero_lit, cell_of h j]; simpa [RowTy.flat, evTy] using hj⟩⟩
theorem EvsR.snoc {w : World} {xs : List EvT} {es : List EvP} {x : EvT} {e : EvP} (h : EvsR w xs es) (r : EvR w x e) : EvsR w (xs ++ [x]) (es ++ [e]) := by
 refine ⟨by simp [h.1], fun i y f hy hf => ?_⟩
 by_cases q : i < xs.length
 ·
  rw [List.getElem?_append_left q] at hy
  rw [List.getElem?_append_left (by rw [← h.1]; exact q)] at hf
  exact h.2 i y f hy hf
 ·
  rw [List.getElem?_append_right (by omega)] at hy
  rw [List.getElem?_append_right (by rw [← h.1]; omega), ← h.1] at hf
  have hi := (List.getElem?_eq_some_iff.1 hy).1
  simp at hi
  rw [hi] at hy hf
  simp at hy hf
  subst hy hf
  exact r
theorem EvR.chgS {S : List Nat} {w w' : World} {x : EvT} {e : EvP} (h : EvR w x e) (hc : Chg S w w') (hA : ∀ a, x.A = some a → a.block ∉ S) (hB : ∀ a, x.B = some a → a.block ∉ S) : EvR w' x e := ⟨h.n, h.s, h.p, h.k, h.m, h.l, h.bl, h.A.chg hc hA, h.B.chg hc hB⟩
theorem EvsR.chgS {S : List Nat} {w w' : World} {xs : List EvT} {es : List EvP} (h : EvsR w xs es) (hc : Chg S w w') (hS : ∀ x ∈ xs, (∀ a, x.A = some a → a.block ∉ S) ∧ (∀ a, x.B = some a → a.block ∉ S)) : EvsR w' xs es :=
 ⟨h.1, fun i x e hx he => (h.2 i x e hx he).chgS hc (hS x (List.mem_of_getElem? hx)).1 (hS x (List.mem_of_getElem? hx)).2⟩
end
section
open Go.RowKit Go.Lib

theorem RowTy.run_mk {α : Type} (R : RowTy α) (n : Nat) (h : n ≤ 1000000) (w : World) : (Instr.makeSlice R.TS (.int .i64 (n : Int)) (.int .i64 (n : Int))).run Tryz.prog w = .ok (.slice (some ⟨w.heap.size, 0, none⟩) n n) (w.alloc (.cells (R.flat (List.replicate n R.z)).toArray R.T)) := by
 have hinf := R.info
 obtain ⟨i0, hi, hm⟩ := Option.map_eq_some_iff.1 hinf
 have hz : i0.zero = some R.zv := congrArg Prod.fst hm
 have hs : i0.size = R.k := congrArg (fun p => p.2.1) hm
 have hb : i0.bytes = R.bytes := congrArg (fun p => p.2.2) hm
 have hr := run_make (P := Tryz.prog) w R.TS R.T i0 R.zv R.under hi hz .i64 .i64 n n (by omega) (by omega) (by rw [hb]; have := R.bpos; have : (R.bytes : Int) * (n : Int) ≤ 200 * (n : Int) := Int.mul_le_mul_of_nonneg_right (by omega) (by omega); omega) (by omega)
 rw [hr, hs, Int.toNat_natCast]
 have hk : R.zv.cells.size = R.k := by rw [← Array.length_toList, R.zc, R.klen]
 have e : madeCells R.zv.cells (n * R.k) = (R.flat (List.replicate n R.z)).toArray := by
  rw [← R.zeros]
  unfold madeCells Builtin.zeroCells
  simp [hk]
 rw [e]
theorem setE_k {xs : List EvT} {j : Nat} {y : EvT} (x : EvT) (h : xs[j]? = some y) : (xs.set j x)[j]? = some x := by
 rw [List.getElem?_set]
 simp [(List.getElem?_eq_some_iff.1 h).1]
theorem OwnK.set7 {w : World} {g c : Nat} {xs : List EvT} (h : OwnK evTy w (some ⟨g, 0, none⟩) c xs) (j : Nat) (y x : EvT) (hx : xs[j]? = some y) :
  OwnK evTy (((((((w.setCell ⟨g, j * 7, none⟩ (.int .i64 x.n)).setCell ⟨g, j * 7 + 1, none⟩ (.int .i64 x.s)).setCell ⟨g, j * 7 + 2, none⟩ (.string x.p)).setCell ⟨g, j * 7 + 3, none⟩ (.int .i64 x.k)).setCell ⟨g, j * 7 + 4, none⟩ (.int .i64 x.m)).setCell ⟨g, j * 7 + 5, none⟩ (.slice x.A x.l x.c)).setCell ⟨g, j * 7 + 6, none⟩ (.slice x.B x.bl x.bc)) (some ⟨g, 0, none⟩) c (xs.set j x) := by
 have a0 := h.setc j 0 y ⟨x.n, y.s, y.p, y.k, y.m, y.A, y.l, y.c, y.B, y.bl, y.bc⟩ (.int .i64 x.n) hx (by decide) (fun q hq => by rcases q with _ | _ | _ | _ | _ | _ | _ | q <;> rfl)
 have a1 := a0.setc j 1 _ ⟨x.n, x.s, y.p, y.k, y.m, y.A, y.l, y.c, y.B, y.bl, y.bc⟩ (.int .i64 x.s) (setE_k _ hx) (by decide) (fun q hq => by rcases q with _ | _ | _ | _ | _ | _ | _ | q <;> rfl)
 rw [List.set_set] at a1
 have a2 := a1.setc j 2 _ ⟨x.n, x.s, x.p, y.k, y.m, y.A, y.l, y.c, y.B, y.bl, y.bc⟩ (.string x.p) (setE_k _ hx) (by decide) (fun q hq => by rcases q with _ | _ | _ | _ | _ | _ | _ | q <;> rfl)
 rw [List.set_set] at a2
 have a3 := a2.setc j 3 _ ⟨x.n, x.s, x.p, x.k, y.m, y.A, y.l, y.c, y.B, y.bl, y.bc⟩ (.int .i64 x.k) (setE_k _ hx) (by decide) (fun q hq => by rcases q with _ | _ | _ | _ | _ | _ | _ | q <;> rfl)
 rw [List.set_set] at a3
 have a4 := a3.setc j 4 _ ⟨x.n, x.s, x.p, x.k, x.m, y.A, y.l, y.c, y.B, y.bl, y.bc⟩ (.int .i64 x.m) (setE_k _ hx) (by decide) (fun q hq => by rcases q with _ | _ | _ | _ | _ | _ | _ | q <;> rfl)
 rw [List.set_set] at a4
 have a5 := a4.setc j 5 _ ⟨x.n, x.s, x.p, x.k, x.m, x.A, x.l, x.c, y.B, y.bl, y.bc⟩ (.slice x.A x.l x.c) (setE_k _ hx) (by decide) (fun q hq => by rcases q with _ | _ | _ | _ | _ | _ | _ | q <;> rfl)
 rw [List.set_set] at a5
 have a6 := a5.setc j 6 _ x (.slice x.B x.bl x.bc) (setE_k _ hx) (by decide) (fun q hq => by rcases q with _ | _ | _ | _ | _ | _ | _ | q <;> rfl)
 rw [List.set_set] at a6
 exact a6
theorem Chg.set7 {S : List Nat} {w0 w : World} {g : Nat} (h : Chg S w0 w) (hg : g ∈ S ∨ w0.heap.size ≤ g) (o : Nat) (v0 v1 v2 v3 v4 v5 v6 : Value) :
  Chg S w0 (((((((w.setCell ⟨g, o, none⟩ v0).setCell ⟨g, o + 1, none⟩ v1).setCell ⟨g, o + 2, none⟩ v2).setCell ⟨g, o + 3, none⟩ v3).setCell ⟨g, o + 4, none⟩ v4).setCell ⟨g, o + 5, none⟩ v5).setCell ⟨g, o + 6, none⟩ v6) :=
 ((((((h.setCell (p := ⟨g, o, none⟩) hg v0).setCell (p := ⟨g, o + 1, none⟩) hg v1).setCell (p := ⟨g, o + 2, none⟩) hg v2).setCell (p := ⟨g, o + 3, none⟩) hg v3).setCell (p := ⟨g, o + 4, none⟩) hg v4).setCell (p := ⟨g, o + 5, none⟩) hg v5).setCell (p := ⟨g, o + 6, none⟩) hg v6
structure OwnEs (w : World) (lo hi : Nat) (G : Option Addr) (ys : List EvT) (es : List EvP) : Prop where
 ev : EvsR w ys es
 own : ∀ (i : Nat) (y : EvT) (e : EvP), ys[i]? = some y → es[i]? = some e → OwnB w y.A y.c e.b ∧ OwnK spanTy w y.B y.bc e.q
 at_ : ∀ y ∈ ys, ∀ a, (y.A = some a ∨ y.B = some a) → lo ≤ a.block ∧ a.block < hi ∧ ∀ b, G = some b → a.block ≠ b.block
 two : ∀ y ∈ ys, ∀ a b, y.A = some a → y.B = some b → a.block ≠ b.block
 apart : ys.Pairwise (fun y z => ∀ a b, (y.A = some a ∨ y.B = some a) → (z.A = some b ∨ z.B = some b) → a.block ≠ b.block)
theorem OwnEs.nil (w : World) (lo hi : Nat) (G : Option Addr) : OwnEs w lo hi G [] [] := ⟨EvsR.nil _, fun i y e h => by simp at h, fun y h => by simp at h, fun y h => by simp at h, List.Pairwise.nil⟩
theorem OwnEs.chg {S : List Nat} {w w' : World} {lo hi : Nat} {G : Option Addr} {ys : List EvT} {es : List EvP} (h : OwnEs w lo hi G ys es) (hc : Chg S w w') (hS : ∀ i ∈ S, (lo ≤ i ∧ i < hi) → ∃ b, G = some b ∧ b.block = i) : OwnEs w' lo hi G ys es := by
 have no : ∀ y ∈ ys, ∀ a, (y.A = some a ∨ y.B = some a) → a.block ∉ S := fun y hy a ha q => by
  obtain ⟨l, u, d⟩ := h.at_ y hy a ha
  obtain ⟨b, hb, e⟩ := hS _ q ⟨l, u⟩
  exact d b hb e.symm
 refine ⟨h.ev.chgS hc (fun x hx => ⟨fun a ha => no x hx a (.inl ha), fun a ha => no x hx a (.inr ha)⟩), fun i y e hy he => ?_, h.at_, h.two, h.apart⟩
 obtain ⟨a, b⟩ := h.own i y e hy he
 exact ⟨a.chg hc (fun a ha => no y (List.mem_of_getElem? hy) a (.inl ha)), b.chg hc (fun a ha => no y (List.mem_of_getElem? hy) a (.inr ha))⟩
theorem OwnEs.mono {w : World} {lo hi hi' : Nat} {G : Option Addr} {ys : List EvT} {es : List EvP} (h : OwnEs w lo hi G ys es) (hh : hi ≤ hi') : OwnEs w lo hi' G ys es :=
 ⟨h.ev, h.own, fun y hy a ha => ⟨(h.at_ y hy a ha).1, by have := (h.at_ y hy a ha).2.1; omega, (h.at_ y hy a ha).2.2⟩, h.two, h.apart⟩
theorem OwnEs.low {w : World} {lo lo' hi : Nat} {G : Option Addr} {ys : List EvT} {es : List EvP} (h : OwnEs w lo hi G ys es) (hh : lo' ≤ lo) : OwnEs w lo' hi G ys es :=
 ⟨h.ev, h.own, fun y hy a ha => ⟨by have := (h.at_ y hy a ha).1; omega, (h.at_ y hy a ha).2⟩, h.two, h.apart⟩
theorem OwnEs.snoc {w : World} {lo hi hi' : Nat} {G : Option Addr} {ys : List EvT} {es : List EvP} {x : EvT} {e : EvP} (h : OwnEs w lo hi G ys es) (hh : lo ≤ hi ∧ hi ≤ hi') (r : EvR w x e) (hA : OwnB w x.A x.c e.b) (hB : OwnK spanTy w x.B x.bc e.q) (ha : ∀ a, (x.A = some a ∨ x.B = some a) → hi ≤ a.block ∧ a.block < hi' ∧ ∀ b, G = some b → a.block ≠ b.block) (h2 : ∀ a b, x.A = some a → x.B = some b → a.block ≠ b.block) : OwnEs w lo hi' G (ys ++ [x]) (es ++ [e]) := by
 refine ⟨h.ev.snoc r, fun i y f hy hf => ?_, fun y hy a q => ?_, fun y hy => ?_, ?_⟩
 ·
  by_cases q : i < ys.length
  ·
   rw [List.getElem?_append_left q] at hy
   rw [List.getElem?_append_left (by rw [← h.ev.1]; exact q)] at hf
   exact h.own i y f hy hf
  ·
   rw [List.getElem?_append_right (by omega)] at hy
   rw [List.getElem?_append_right (by rw [← h.ev.1]; omega), ← h.ev.1] at hf
   have hi := (List.getElem?_eq_some_iff.1 hy).1
   simp at hi
   have e0 : i - ys.length = 0 := by omega
   rw [e0] at hy hf
   cases hy
   cases hf
   exact ⟨hA, hB⟩
 ·
  rcases List.mem_append.1 hy with r | r
  ·
   have := h.at_ y r a q
   exact ⟨this.1, by omega, this.2.2⟩
  ·
   simp at r; subst r
   have := ha a q
   exact ⟨by omega, this.2⟩
 ·
  rcases List.mem_append.1 hy with r | r
  ·
   exact h.two y r
  ·
   simp at r; subst r; exact h2
 ·
  rw [List.pairwise_append]
  refine ⟨h.apart, List.pairwise_singleton _ _, fun y hy z hz a b p q => ?_⟩
  simp at hz
  subst hz
  have := (h.at_ y hy a p).2.1
  have := (ha b q).1
  omega
structure EsF (w : World) (lo hi : Nat) (A : Option Addr) (c : Nat) (ys : List EvT) (es : List EvP) : Prop where
 row : OwnK evTy w A c ys
 rowAt : ∀ a, A = some a → lo ≤ a.block ∧ a.block < hi
 all : OwnEs w lo hi A ys es
theorem EsF.chg {S : List Nat} {w w' : World} {lo hi : Nat} {A : Option Addr} {c : Nat} {ys : List EvT} {es : List EvP} (h : EsF w lo hi A c ys es) (hc : Chg S w w') (hS : ∀ i ∈ S, ¬ (lo ≤ i ∧ i < hi)) : EsF w' lo hi A c ys es :=
 ⟨h.row.chg hc (fun a ha q => hS _ q (h.rowAt a ha)), h.rowAt, h.all.chg hc (fun i hi q => absurd q (hS i hi))⟩
theorem EsF.nil (w : World) (lo hi : Nat) : EsF w lo hi none 0 [] [] := ⟨OwnK.none_ _, (fun a h => by cases h), OwnEs.nil _ _ _ _⟩
end
section
open Go.RowKit

theorem range_boundx {α : Type} {P : Program} {n : Nat} {g : Operand} {ps : Array Tmp} {assign body : Code} {Q : Exit → Act → World → Prop} {a : Act} {w : World} {gf : Nat} {lb bd : Array Value}
  (hg : a.eval g = .func (.func gf) bd lb) (eg : ∀ args w, (callFunc gf args).run P w = .ok (.enter gf args) w) {encs : α → Array Value} {S Sp : List α → Prop} {Ex : List α → α → World → Prop} {Bd : List α → Prop} {n₁ : Nat} (hn₁ : n₁ ≤ w.heap.size) {Si T : List Nat} (hSi : ∀ x ∈ Si, x < w.heap.size)
  (hseq : ∀ (l : Nat) (J Jx : List α → World → Prop) (W : World), Below w.heap.size w W → (∀ pre A B, J pre A → Chg Si A B → J pre B) → (∀ pre A B, Jx pre A → Chg Si A B → Jx pre B) → (∀ pre A, J pre A → Bd pre) →
   (∀ pre x W1, J pre W1 → Ex pre x W1 → YieldAt Fence.wide (n - 1 - 1) P l (encs x) W1 fun e W' => (e = .returned (.bool true) ∧ J (pre ++ [x]) W' ∧ Kpt n₁ T W1 W') ∨ (e = .returned (.bool false) ∧ Jx (pre ++ [x]) W')) →
   J [] W → CallsIn Fence.wide (n - 1) P gf ((bd ++ #[.func (.yield l) #[] #[]]) ++ lb) W fun e W' => (∃ v, e = .returned v) ∧ ((∃ xs, S xs ∧ J xs W') ∨ ∃ xs, Sp xs ∧ Jx xs W'))
  (hps : ∀ x, (encs x).size = ps.size) (I : List α → World → Prop) (Ix : Code → List α → World → Prop) (hI : ∀ pre A B, I pre A → Chg Si A B → I pre B) (hIx : ∀ c pre A B, Ix c pre A → Chg Si A B → Ix c pre B)
  (hIl : ∀ pre W l o o', W.heap[l]? = some o → o.isCells = false → w.heap.size ≤ l → I pre W → I pre (W.putObj l o')) (hIxl : ∀ c pre W l o o', W.heap[l]? = some o → o.isCells = false → w.heap.size ≤ l → Ix c pre W → Ix c pre (W.putObj l o')) (hBd : ∀ pre A, I pre A → Bd pre) (h0 : I [] w)
  (hEx : ∀ pre x W l o o', W.heap[l]? = some o → o.isCells = false → Ex pre x W → Ex pre x (W.putObj l o')) (hExA : ∀ pre x W o, Ex pre x W → Ex pre x (W.alloc o)) (ob : α → Obj) (hob : ∀ x, (ob x).isCells = true) (a₁ : α → Nat → Act)
  (hassign : ∀ (l : Nat) (x : α) (W : World) (K : Act → World → Prop), K (a₁ x W.heap.size) (W.alloc (ob x)) →
   assign.wpIn (Fence.wide.inRound l) (n - 1 - 1) P (Exit.then K (fun _ _ _ => False)) { tmps := (ps.zip (encs x)).foldl (fun t (p, v) => t.setIfInBounds p v) a.tmps, defers := [] } W)
  (hbody : ∀ (l nb : Nat) (pre : List α) (x : α) (W : World), n₁ ≤ nb → W.heap[nb]? = some (ob x) → I pre W → Ex pre x W → body.wpIn (Fence.wide.inRound l) (n - 1 - 1) P (brkPost I Ix n₁ T (pre ++ [x]) W) (a₁ x nb) W)
  (hdone : ∀ (D : Nat) (xs : List α) (W : World), w.heap.size ≤ D → S xs → I xs W → W.heap[D]? = some (.deferred (some [])) → Q .normal { a with defers := { target := .collected D, args := #[] } :: a.defers } W)
  (hstop : ∀ (D : Nat) (c : Code) (xs : List α) (W : World), w.heap.size ≤ D → Sp xs → Ix c xs W → W.heap[D]? = some (.deferred (some [])) → c.wpIn Fence.wide n P Q { a with defers := { target := .collected D, args := #[] } :: a.defers } W) :
  (Code.rangeFunc g ps assign body).wpIn Fence.wide n P Q a w := by
 refine wpIn_rangeFunc ?_
 intro fn hfn
 obtain ⟨rc, hrc⟩ : ∃ rc : LoopState → Option Code → Loop, rc = fun st pe => { state := st, pending := pe, fn, tmps := a.tmps, params := ps, assign, body, defers := w.heap.size } := ⟨_, rfl⟩
 obtain ⟨V, hV, hcV, hD0, hL0⟩ := news2 w (.deferred (some [])) (.loop (rc .ready none))
 have hsV : V.heap.size = w.heap.size + 2 := by rw [hV]; simp
 have bV : Below w.heap.size w V := by rw [hV]; exact ((Below.refl _ w).alloc (Nat.le_refl _) _).alloc (by simp) _
 refine ⟨w.heap.size + 1, [{ target := .collected w.heap.size, args := #[] }], V, { target := .fn (.func gf) lb, args := bd ++ #[.func (.yield (w.heap.size + 1)) #[] #[]] }, V, gf,
  (bd ++ #[.func (.yield (w.heap.size + 1)) #[] #[]]) ++ lb, V, ?_, ?_, fun _ _ => trivial, ?_, fun h => by simp [Fence.wide] at h, ?_⟩
 ·
  rw [hV, hrc]; exact run_enterLoop_outer _ _ _ _ _
 ·
  simp only [resolve, hg]
  simp [go_sem]
 ·
  simp [invoke, go_sem, eg]
 ·
  -- the record and the row of deferred calls, turned or not, lie at or behind w's end
  have turn : ∀ (W : World) (o : Obj) (o' : Obj), W.heap[w.heap.size + 1]? = some o → o.isCells = false → o.isWalk = false → ∀ m, m ≤ w.heap.size → Below m W (W.putObj (w.heap.size + 1) o') :=
   fun W o o' h hc hw m hm => belowK_b (w := w) hm W _ o o' (by omega) h hc hw
  have far : ∀ k, w.heap.size ≤ k → k ∉ Si := fun k hk h => by have := hSi k h; omega
  refine (hseq (w.heap.size + 1) (fun pre W => I pre W ∧ W.heap[w.heap.size + 1]? = some (.loop (rc .ready none)) ∧ W.heap[w.heap.size]? = some (.deferred (some [])))
   (fun pre W => ∃ c, Ix c pre W ∧ W.heap[w.heap.size + 1]? = some (.loop (rc .done (some c))) ∧ W.heap[w.heap.size]? = some (.deferred (some []))) V bV ?_ ?_ (fun pre A h => hBd _ _ h.1) ?_
   ⟨hI _ _ _ h0 (Chg.ofBelow bV (Nat.le_refl _) _), hL0, hD0⟩).mono ?_
  ·
   rintro pre A B ⟨hi, hl, hk⟩ hb
   exact ⟨hI _ _ _ hi hb, hb.at_ hl (far _ (by omega)), hb.at_ hk (far _ (Nat.le_refl _))⟩
  ·
   rintro pre A B ⟨c, hi, hl, hk⟩ hb
   exact ⟨c, hIx _ _ _ _ hi hb, hb.at_ hl (far _ (by omega)), hb.at_ hk (far _ (Nat.le_refl _))⟩
  ·
   rintro pre x W0 ⟨hi0, hl0, hk0⟩ hx0
   have hy := run_yield (P := P) (args := encs x) hl0 (by rw [hrc]; exact hps x)
   rw [hrc] at hy
   have hz0 : n₁ ≤ W0.heap.size := by have := lt_of_heap hl0; omega
   obtain ⟨W, hWA, cA, bA⟩ := news1 W0 (ob x)
   have hi : I pre W := hI _ _ _ hi0 (cA.mono (by simp))
   have hl := cA.at_ hl0 (by simp)
   have hk := cA.at_ hk0 (by simp)
   have hx : Ex pre x W := by rw [hWA]; exact hExA _ _ _ _ hx0
   have hlt := lt_of_heap hl
   refine ⟨fn, _, assign, body, hy, roundIn_of_wpIn hfn (hassign _ x W0 _ ?_)⟩
   rw [← hWA]
   refine ⟨_, run_beginRound hl (by rw [hrc]), ?_⟩
   have hl2 : (W.putObj (w.heap.size + 1) (.loop { rc .ready none with state := .busy })).heap[w.heap.size + 1]? = some (.loop { rc .ready none with state := .busy }) := World.putObj_heap_same hlt
   have hk2 : (W.putObj (w.heap.size + 1) (.loop { rc .ready none with state := .busy })).heap[w.heap.size]? = some (.deferred (some [])) := (World.putObj_heap_other (by omega)).trans hk
   have b2 := turn W _ (.loop { rc .ready none with state := .busy }) hl rfl rfl
   refine wpIn_mono (hbody _ W0.heap.size pre x _ hz0 ((World.putObj_heap_other (fun e => by (first | rw [e] at bA | rw [← e] at bA); rw [hl] at bA; have h2 := hob x; rw [← Option.some.inj bA] at h2; exact absurd h2 (by simp [Obj.isCells]))).trans bA) (hIl _ _ _ _ _ hl rfl (by omega) hi) (hEx pre x W _ _ _ hl rfl hx)) ?_
   have fin : ∀ (c : Code) (W3 : World), KeepsOthers (W.putObj (w.heap.size + 1) (.loop { rc .ready none with state := .busy })) W3 → Ix c (pre ++ [x]) W3 →
     ∃ v w', (Instr.endRound (w.heap.size + 1) (some c)).run P W3 = .ok v w' ∧ ((Ending.returned v = .returned (.bool true) ∧ (I (pre ++ [x]) w' ∧ w'.heap[w.heap.size + 1]? = some (.loop (rc .ready none)) ∧ w'.heap[w.heap.size]? = some (.deferred (some []))) ∧ Kpt n₁ T W0 w') ∨
      (Ending.returned v = .returned (.bool false) ∧ ∃ c, Ix c (pre ++ [x]) w' ∧ w'.heap[w.heap.size + 1]? = some (.loop (rc .done (some c))) ∧ w'.heap[w.heap.size]? = some (.deferred (some [])))) := by
    intro c W3 hk3 hi3
    have hl3 := hk3.same _ _ hl2 rfl
    have hd3 := hk3.same _ _ hk2 rfl
    have hr := run_endRound (P := P) (some c) hl3
    have b4 := turn W3 _ (.loop (rc .done (some c))) hl3 rfl rfl
    refine ⟨_, _, hr, .inr ⟨rfl, c, ?_, ?_, ?_⟩⟩
    ·
     have := hIxl _ _ _ _ _ (.loop (rc .done (some c))) hl3 rfl (by omega) hi3
     rw [hrc] at this ⊢
     exact this
    ·
     rw [hrc]; exact World.putObj_heap_same (lt_of_heap hl3)
    ·
     exact (World.putObj_heap_other (by omega)).trans hd3
   rintro e a3 W3 hp
   cases e with
   | normal =>
    obtain ⟨hk3, hb3, hi3⟩ := hp
    have hl3 := hk3.same _ _ hl2 rfl
    have hd3 := hk3.same _ _ hk2 rfl
    have hr := run_endRound (P := P) none hl3
    have b4 := turn W3 _ (.loop (rc .ready none)) hl3 rfl rfl
    refine ⟨_, _, hr, .inl ⟨rfl, ⟨?_, ?_, ?_⟩, ?_⟩⟩
    ·
     have := hIl _ _ _ _ (.loop (rc .ready none)) hl3 rfl (by omega) hi3
     rw [hrc] at this ⊢
     exact this
    ·
     rw [hrc]; exact World.putObj_heap_same (lt_of_heap hl3)
    ·
     exact (World.putObj_heap_other (by omega)).trans hd3
    ·
     have := (Kpt.of_chg (T := T) (cA.mono (by simp)) hz0).trans (((Kpt.of_below (T := T) (b2 _ hn₁) (Nat.le_refl _)).trans hb3).trans (Kpt.of_below (b4 _ hn₁) (Nat.le_refl _)))
     rw [hrc] at this ⊢
     exact this
   | ret => exact fin .ret W3 hp.1 hp.2
   | exit id => exact fin (.exit id) W3 hp.1 hp.2
   | goto t => exact hp.elim
   | panic ch => exact hp.elim
   | outgrown => exact hp.elim
  ·
   rintro e W2 ⟨⟨v, rfl⟩, (⟨xs, hS, hi, hl, hk⟩ | ⟨xs, hS, c, hi, hl, hk⟩)⟩
   ·
    refine ⟨none, _, by have := run_endLoop (P := P) hl (by rw [hrc]; simp); rw [hrc] at this; exact this, hdone _ xs _ (Nat.le_refl _) hS ?_ ((World.putObj_heap_other (by omega)).trans hk)⟩
    exact hIl _ _ _ _ _ hl rfl (by omega) hi
   ·
    refine ⟨some c, _, by have := run_endLoop (P := P) hl (by rw [hrc]; simp); rw [hrc] at this; exact this, hstop _ c xs _ (Nat.le_refl _) hS ?_ ((World.putObj_heap_other (by omega)).trans hk)⟩
    exact hIxl _ _ _ _ _ _ hl rfl (by omega) hi
end
section
open Go.RowKit Go.Lib

attribute [local go_sem] Oper.semAt_some
def evAgg (x : EvT) : Value := .agg #[.int .i64 x.n, .int .i64 x.s, .string x.p, .int .i64 x.k, .int .i64 x.m, .slice x.A x.l x.c, .slice x.B x.bl x.bc]
theorem valuesev_any (w : World) (A : Option Addr) (n c : Nat) : Calls Tryz.prog 34 #[.slice A n c] w fun e w' => e = .returned (.func (.func 69) #[] #[.pointer (some ⟨w.heap.size, 0, none⟩)]) ∧ w' = w.alloc (.cells #[.slice A n c] 22) := by
 go_enter Tryz.func34, Tryz.ntmps34
 go_wp2; go_ret
 exact ⟨rfl, rfl⟩
set_option maxRecDepth 100000 in
theorem valuesev1_gives (n l n₁ bs : Nat) (T : List Nat) (A : Option Addr) (c : Nat) (xs : List EvT)
  (J Jx : List EvT → World → Prop) (W : World) (hb : bs < n₁) (hT : bs ∉ T) (hn₁ : n₁ ≤ W.heap.size) (hA : xs = [] ∨ ∀ a, A = some a → a.block < n₁ ∧ a.block ∉ T)
  (hJ : ∀ pre A B, J pre A → Chg [] A B → J pre B) (hr : RdK evTy W A xs.length xs) (hn : xs.length ≤ 100000)
  (hs : W.heap[bs]? = some (.cells #[.slice A xs.length c] 22 (0, 0)))
  (hY : ∀ pre x W1, J pre W1 → (xs[pre.length]? = some x ∧ pre = xs.take pre.length) → YieldAt Fence.wide n Tryz.prog l #[evAgg x] W1 fun e W' => (e = .returned (.bool true) ∧ J (pre ++ [x]) W' ∧ Kpt n₁ T W1 W') ∨ (e = .returned (.bool false) ∧ Jx (pre ++ [x]) W'))
  (h0 : J [] W) :
  CallsIn Fence.wide (n + 1) Tryz.prog 69 #[.func (.yield l) #[] #[], .pointer (some ⟨bs, 0, none⟩)] W fun e W' => (∃ v, e = .returned v) ∧ ((∃ ys, ys = xs ∧ J ys W') ∨ ∃ ys, True ∧ Jx ys W') := by
 have h1 : 1 ≤ n + 1 := by omega
 have hro : Fence.wide.round = none := rfl
 have HS := h_ hs
 have HR := h_ hr
 have HN := h_ hn
 have HA := h_ hA
 have HB := h_ (And.intro hb (And.intro hT hn₁))
 have HJ := h_ hJ
 have HY := h_ hY
 have z0 := ce1 hs
 clear hs hr hn hA hb hT hn₁ hJ hY
 refine callsIn_of_wp Tryz.func69 rfl trivial ?_ hro
 simp only [Tryz.ntmps69, List.size_toArray, List.length_cons, List.length_nil, Nat.reduceAdd, Nat.reduceSub, Array.replicate_succ, Array.replicate_zero, List.push_toArray, List.append_toArray, List.nil_append, List.cons_append]
 gi_wp2
 clear z0
 gi_loopw [7] (fun v7 wr => ∃ (k : Nat), k ≤ xs.length ∧ v7 = .int .i64 (k : Int) ∧ Hid (J (xs.take k) wr) ∧ Hid (Kpt n₁ T W wr))
  (fun v7 _ => xs.length - (RowKit.intOf v7).toNat)
 case atStart => exact ⟨0, Nat.zero_le _, rfl, h_ h0, h_ (Kpt.refl _ _ _)⟩
 case round =>
  obtain ⟨k, hkl, rfl, JP, KP⟩ := hrel
  have k0 : (0 : Int) ≤ (k : Int) := by omega
  by_cases hlt : k < xs.length
  ·
   have k1 : (k : Int) < (xs.length : Int) := by omega
   have k3 : IntKind.i64.wrap ((k : Int) + 1) = (k : Int) + 1 := IntWalk.i64_in _ (by have := HN.out; omega)
   have RX := HR.out.kpt KP.out (HA.out.resolve_left (by intro q; rw [q] at hlt; simp at hlt))
   obtain ⟨g, o, eA, _⟩ := RX.line (by omega)
   subst eA
   obtain ⟨x, hx⟩ : ∃ x, xs[k]? = some x := ⟨_, List.getElem?_eq_getElem hlt⟩
   obtain ⟨q0, q1, q2, q3, q4, q5, q6⟩ := evCells RX hx
   obtain ⟨wb, hwb, cb, bb⟩ := news1 wr (.cells #[.int .i64 x.n, .int .i64 x.s, .string x.p, .int .i64 x.k, .int .i64 x.m, .slice x.A x.l x.c, .slice x.B x.bl x.bc] 40)
   have hlen : (xs.take k).length = k := by rw [List.length_take]; omega
   have hsn : xs.take k ++ [x] = xs.take (k + 1) := by rw [List.take_add_one, hx]; rfl
   have YY := h_ (HY.out (xs.take k) x wb (HJ.out _ _ _ JP.out cb) ⟨by rw [hlen]; exact hx, by rw [hlen]⟩)
   have WB := h_ hwb
   obtain ⟨y0, y1, y2, y3, y4, y5, y6⟩ := ce7 bb
   have SN := h_ hsn
   have KB : Hid (Kpt n₁ T W wb) := h_ (KP.out.trans (Kpt.of_chg (cb.mono (by simp)) (Nat.le_trans HB.out.2.2 KP.out.size)))
   clear hwb cb bb hsn hlen RX hx
   gi_upto_region 3 with fail
   rw [← WB.out]
   clear q0 q1 q2 q3 q4 q5 q6
   obtain ⟨gb, hgb⟩ : ∃ g, wr.heap.size = g := ⟨_, rfl⟩
   rw [hgb] at y0 y1 y2 y3 y4 y5 y6 ⊢
   obtain ⟨fn, tmps, assign, body, hy, hR⟩ := YY.out
   unfold evAgg at hy
   gi_wp2
   refine hR.mono ?_
   rintro e W3 (⟨rfl, hJ3, hk3⟩ | ⟨rfl, hj3⟩)
   ·
    have J3 := h_ hJ3
    have K3 := h_ (KB.out.trans hk3)
    rw [SN.out] at J3
    clear hJ3 hk3 hR hy y0 y1 y2 y3 y4 y5 y6
    gi_wp2
    go_roundw
    case rel => exact ⟨k + 1, by omega, by first | rfl | simp, J3, K3⟩
    case measure => simp [RowKit.intOf]; omega
   ·
    have J3 := h_ hj3
    clear hj3 hR hy y0 y1 y2 y3 y4 y5 y6
    gi_wp2
    refine bodyPost_ret (results_none rfl _ _ _) rfl ?_
    exact ⟨⟨_, rfl⟩, .inr ⟨_, trivial, J3.out⟩⟩
  ·
   obtain rfl : k = xs.length := by omega
   have k1 : ¬ (xs.length : Int) < (xs.length : Int) := by omega
   have ET : Hid (xs.take xs.length = xs) := h_ List.take_length
   gi_wp2
   go_end0
   have JX := JP.out
   rw [ET.out] at JX
   first | exact ⟨⟨_, rfl⟩, .inl ⟨xs, rfl, JX⟩⟩ | exact ⟨⟨_, rfl⟩, .inl JX⟩
set_option maxRecDepth 100000 in
theorem appendseq_any (w : World) (bs : Nat) (A : Option Addr) (c : Nat) (xs : List EvT) (h : RdK evTy w A xs.length xs) (ho : xs = [] ∨ ∀ a, A = some a → a.block < w.heap.size) (hn : xs.length ≤ 100000) (hs : w.heap[bs]? = some (.cells #[.slice A xs.length c] 22 (0, 0))) :
  Calls Tryz.prog 117 #[.slice none 0 0, .func (.func 69) #[] #[.pointer (some ⟨bs, 0, none⟩)]] w fun e w' => ∃ B d, e = .returned (.slice B xs.length d) ∧ OwnK evTy w' B d xs ∧ (∀ a, B = some a → w.heap.size ≤ a.block) ∧ Chg [] w w' := by
 have LB := h_ (lt_of_heap hs)
 have HS := h_ hs
 have HR := h_ h
 have HO := h_ ho
 have HN := h_ hn
 clear hs h ho hn
 refine (callsIn_wide (n := 5)).1 ?_
 refine callsIn_of_wp_marks Tryz.func117 rfl trivial ?_ rfl
 simp only [Tryz.ntmps117, List.size_toArray, List.length_cons, List.length_nil, Nat.reduceAdd, Nat.reduceSub, Array.replicate_succ, Array.replicate_zero, List.push_toArray, List.append_toArray, List.nil_append, List.cons_append]
 obtain ⟨V, hV, CV, b0⟩ := news1 w (.cells #[.slice none 0 0] 22)
 have hsV : V.heap.size = w.heap.size + 1 := by rw [hV]; simp
 have HV := h_ hV
 clear hV
 gi_wp2
 rw [← HV.out]
 have lb := LB.out
 refine range_boundx (gf := 69) (bd := #[]) (lb := #[.pointer (some ⟨bs, 0, none⟩)]) rfl (enters_of Tryz.func69 (by kernel_rfl) rfl) (encs := fun x : EvT => #[evAgg x]) (n₁ := V.heap.size) (Nat.le_refl _)
  (S := fun ys => ys = xs) (Sp := fun _ => True) (Ex := fun pre x _ => xs[pre.length]? = some x ∧ pre = xs.take pre.length) (Bd := fun _ => True) (Si := []) (T := [w.heap.size]) ?si ?seq (fun _ => rfl)
  (fun pre W => (∃ B d, W.heap[w.heap.size]? = some (.cells #[.slice B pre.length d] 22 (0, 0)) ∧ OwnK evTy W B d pre ∧ ∀ a, B = some a → V.heap.size ≤ a.block) ∧ Chg [] w W ∧ V.heap.size ≤ W.heap.size)
  (fun _ _ _ => False) ?keep ?keepx ?kl ?kxl ?bd ⟨⟨none, 0, b0, OwnK.none_ _, by simp⟩, CV, Nat.le_refl _⟩ ?elem ?elemA
  (fun x => .cells #[.int .i64 x.n, .int .i64 x.s, .string x.p, .int .i64 x.k, .int .i64 x.m, .slice x.A x.l x.c, .slice x.B x.bl x.bc] 40) (fun _ => rfl)
  (fun x nb => { tmps := #[.slice none 0 0, .func (.func 69) #[] #[.pointer (some ⟨bs, 0, none⟩)], .pointer (some ⟨w.heap.size, 0, none⟩), undef, .slice none 0 0, .pointer (some ⟨nb, 0, none⟩), .func (.func 69) #[] #[.pointer (some ⟨bs, 0, none⟩)], evAgg x, undef, undef, undef, undef, undef], defers := [] }) ?assign ?body ?done ?stop
 case si => intro x hx; simp at hx
 case seq =>
  intro l' J Jx W hW hJ hJx hJb hY h0
  have hs2 := hW.size
  refine (valuesev1_gives 3 l' V.heap.size bs [w.heap.size] A c xs J Jx W (by omega) (by simp; omega) hs2 (HO.out.imp id (fun q a ha => by have := q a ha; refine ⟨by omega, by simp; omega⟩)) hJ ((HR.out.chg CV (by simp)).chg (Chg.ofBelow hW (Nat.le_refl _) []) (by simp)) HN.out ((hW.block _ (by omega)).trans (CV.at_ HS.out (by simp))) hY h0)
 case keep =>
  rintro pre A' B' ⟨⟨B, d, e1, hO, hB⟩, hC, hz⟩ hb
  exact ⟨⟨B, d, hb.at_ e1 (by simp), hO.chg hb (by simp), hB⟩, hC.trans hb, Nat.le_trans hz hb.size⟩
 case keepx => rintro c pre A B h; exact h.elim
 case kl =>
  rintro pre W l o o' hl ho hll ⟨⟨B, d, e1, hO, hB⟩, hC, hz⟩
  exact ⟨⟨B, d, (World.putObj_heap_other (by omega)).trans e1, hO.putl hl ho, hB⟩, hC.putl (by omega), by simpa [World.putObj] using hz⟩
 case kxl => rintro c pre W l o o' hl ho hll h; exact h.elim
 case bd => exact fun _ _ _ => trivial
 case elem => rintro pre x W l o o' hl ho hx; exact hx
 case elemA => rintro pre x W o hx; exact hx
 case assign =>
  intro l x W K hK
  clear hsV lb
  unfold evAgg at *
  gi_wp2
  exact hK
 case body =>
  rintro l' nb pre x W hnb hbx ⟨⟨B, d, e1, hO, hB⟩, hC, hz⟩ ⟨hx, hpre⟩
  have hlen : pre.length < xs.length := (List.getElem?_eq_some_iff.1 hx).1
  obtain ⟨W1, hW1, CW1, bW1⟩ := news1 W (.cells #[.int .i64 x.n, .int .i64 x.s, .string x.p, .int .i64 x.k, .int .i64 x.m, .slice x.A x.l x.c, .slice x.B x.bl x.bc] 40)
  have HW := h_ hW1
  have R1 := h_ (rd_oneEc (X := x) bW1)
  have O1 := h_ (hO.chg CW1 (by simp))
  have F1 := h_ (CW1.at_ e1 (by simp))
  have KW := h_ (show KeepsOthers W W1 by rw [hW1]; exact KeepsOthers.alloc1 _ _)
  have CC := h_ CW1
  have HC := h_ hC
  have N1 := h_ (show (pre.length + 1) * 400 ≤ 140737488355327 by have := HN.out; omega)
  have HZ := h_ hz
  have HBB := h_ hB
  have HSV := h_ hsV
  have y0 := ce1 e1
  obtain ⟨x0, x1, x2, x3, x4, x5, x6⟩ := ce7 hbx
  clear hW1 CW1 bW1 hO e1 hC hz hB hsV lb hlen hpre hx hbx
  gi_wp2_with (gi_at_builtin; rw [← HW.out]; refine wpListIn_appK (R := evTy) rfl _ _ rfl rfl O1.out rfl rfl R1.out N1.out ?_; intro B2 d2 W2 o2 g2 e2; have q2 := grown_at g2 F1.out (fun a ha => by have := HBB.out a ha; have := HSV.out; omega); have k2 := cell_of q2 0; have f2 := free_of q2 0; simp only [gA, gZ] at k2; have Q2 := h_ q2; have O2 := h_ o2; have G2 := h_ g2; have E2 := h_ e2; clear q2 o2 g2 e2)
  have hsv := HSV.out
  have hw2 : W.heap.size ≤ W2.heap.size := Nat.le_trans CC.out.size G2.out.size
  have hB2 : ∀ a, B2 = some a → V.heap.size ≤ a.block := by
   rintro a rfl
   rcases E2.out with e | e
   ·
    exact HBB.out a e.symm
   ·
    cases e; have := HZ.out; have := CC.out.size; show _ ≤ W1.heap.size; omega
  have rowk : ∀ k, B.map (·.block) = some k → V.heap.size ≤ k := fun k hk => by
   cases B with
   | none => cases hk
   | some a => simp at hk; have := HBB.out a rfl; omega
  have st := (Chg.refl [w.heap.size] W2).setCell (p := ⟨w.heap.size, 0, none⟩) (.inl (by simp)) (.slice B2 (pre.length + 1) d2)
  have KP : Kpt V.heap.size [w.heap.size] W (W2.setCell ⟨w.heap.size, 0, none⟩ (.slice B2 (pre.length + 1) d2)) := ((Kpt.of_chg (T := [w.heap.size]) (CC.out.mono (by simp)) HZ.out).trans (Kpt.grown G2.out (Nat.le_trans HZ.out CC.out.size) (fun k hk => .inl (rowk k hk)))).trans (Kpt.of_chg st (Nat.le_trans HZ.out hw2))
  refine ⟨(KW.out.trans (KeepsOthers.grown G2.out O1.out.cells)).trans (KeepsOthers.setCell _ _ _), KP, ⟨B2, d2, ?_, ?_, hB2⟩, ?_, Nat.le_trans HZ.out KP.size⟩
  ·
   have := heap_setCell_same W2 w.heap.size 0 _ _ (.slice B2 (pre.length + 1) d2) Q2.out
   simpa using this
  ·
   exact O2.out.chg st (fun a ha => by have := hB2 a ha; simp; omega)
  ·
   exact HC.out.trans' (show Chg (w.heap.size :: blkOf B) W _ from ((CC.out.mono (by simp)).grown G2.out (fun k hk => .inl (by
    cases B with
    | none => cases hk
    | some a => simp at hk; subst hk; simp [blkOf]))).setCell (.inl (by simp)) _) (fun z hz => by
     rcases List.mem_cons.1 hz with rfl | q
     ·
      exact .inr (Nat.le_refl _)
     ·
      obtain ⟨y, hy, rfl⟩ := of_blkOf q
      have := HBB.out y hy
      exact .inr (by omega))
 case done =>
  rintro D ys W hD hS ⟨⟨B, d, e1, hO, hB⟩, hC, hz⟩ hK
  have HSW := h_ hS
  have HO2 := h_ hO
  have HBB := h_ hB
  have HC := h_ hC
  have HSV := h_ hsV
  have k1 := ce1 e1
  clear hS e1 hO hB hC hz hsV lb
  gi_wp2
  refine ⟨by simp, .inl ⟨_, _, rfl, run_takeDeferred hK, ?_⟩⟩
  refine ⟨_, results_tmp rfl _ _ _, B, d, ?_, ?_, fun a ha => ?_, HC.out.putl ?_⟩
  ·
   rw [HSW.out]; rfl
  ·
   rw [← HSW.out]; exact HO2.out.putl hK rfl
  ·
   have := HBB.out a ha; have := HSV.out; omega
  ·
   have := HSV.out; omega
 case stop => rintro D c xs V _ _ h; exact h.elim
theorem collect_any (w : World) (bs : Nat) (A : Option Addr) (c : Nat) (xs : List EvT) (h : RdK evTy w A xs.length xs) (ho : xs = [] ∨ ∀ a, A = some a → a.block < w.heap.size) (hn : xs.length ≤ 100000) (hs : w.heap[bs]? = some (.cells #[.slice A xs.length c] 22 (0, 0))) :
  Calls Tryz.prog 68 #[.func (.func 69) #[] #[.pointer (some ⟨bs, 0, none⟩)]] w fun e w' => ∃ B d, e = .returned (.slice B xs.length d) ∧ OwnK evTy w' B d xs ∧ (∀ a, B = some a → w.heap.size ≤ a.block) ∧ Chg [] w w' := by
 have AP := h_ (appendseq_any w bs A c xs h ho hn hs)
 clear h ho hn hs
 go_enter Tryz.func68, Tryz.ntmps68
 go_wp2_with fail
 refine AP.out.mono ?_
 rintro e w1 ⟨B, d, rfl, a, b, cc⟩
 have P := h_ (And.intro a (And.intro b cc))
 clear a b cc AP; go_wp2; go_ret
 exact ⟨B, d, rfl, P.out⟩
end
section
open Go.RowKit Go.Lib

theorem rdk_nil {α : Type} {R : RowTy α} {w : World} {n : Nat} {xs : List α} (h : RdK R w none n xs) : xs = [] := by
 cases xs with
 | nil => rfl
 | cons y ys =>
  have : 0 < (R.flat (y :: ys)).length := by rw [R.flat_len, List.length_cons]; exact Nat.mul_pos (by omega) R.kpos
  obtain ⟨a, h, _⟩ := h.cells 0 _ (List.getElem?_eq_getElem this); cases h
end
section
open Go.RowKit Go.Sort
section
variable {α : Type} [Inhabited α] {R : RowTy α}

theorem flatK_flat (d : Array α) : (flatK R.enc R.k d).toList = R.flat d.toList := by
 refine R.flat_ext _ _ (by simp) ?_
 intro q i x hx hi
 rw [Array.getElem?_toList] at hx ⊢
 have hq : q < d.size := (Array.getElem?_eq_some_iff.1 hx).1
 have hlt : q * R.k + i < d.size * R.k := by
  have := Nat.mul_le_mul_right R.k (show q + 1 ≤ d.size by omega)
  rw [Nat.succ_mul] at this
  omega
 have e := get_flatK R.enc R.k d (q * R.k + i) hlt
 have h1 : (q * R.k + i) / R.k = q := by
  rw [Nat.add_comm, Nat.add_mul_div_right _ _ R.kpos, Nat.div_eq_of_lt hi, Nat.zero_add]
 have h2 : (q * R.k + i) % R.k = i := by rw [Nat.add_comm, Nat.add_mul_mod_self_right, Nat.mod_eq_of_lt hi]
 rw [h1, h2] at e
 have hd : d[q]! = x := by
  rw [getElem!_pos d q hq]
  rw [Array.getElem?_eq_getElem hq] at hx
  exact Option.some.inj hx
 rw [hd] at e
 have hs : q * R.k + i < (flatK R.enc R.k d).size := by simpa using hlt
 rw [getElem!_pos (flatK R.enc R.k d) _ hs] at e
 have hi2 : i < (R.enc x).length := by rw [R.klen]; exact hi
 rw [getElem!_pos (R.enc x) _ hi2] at e
 rw [Array.getElem?_eq_getElem hs, List.getElem?_eq_getElem hi2, e]
theorem OwnK.holds {w : World} {g c : Nat} {xs : List α} (h : OwnK R w (some ⟨g, 0, none⟩) c xs) : HoldsK R.enc R.k w g 0 xs.toArray := by
 rcases h with ⟨h, _⟩ | ⟨g', full, h, hg, hl, _, hn, ht⟩
 ·
  cases h
 ·
  cases h
  intro j hj
  refine ⟨?_, free_of hg _⟩
  rw [Nat.zero_add, cell_of hg]
  have hs : j < (flatK R.enc R.k xs.toArray).size := hj
  rw [getElem!_pos (flatK R.enc R.k xs.toArray) _ hs]
  have e := flatK_flat (R := R) xs.toArray
  simp only at e
  have e2 : (flatK R.enc R.k xs.toArray)[j]? = (R.flat xs)[j]? := by rw [← Array.getElem?_toList, e]
  rw [Array.getElem?_eq_getElem hs] at e2
  have e3 : (R.flat full)[j]? = (R.flat xs)[j]? := by
   have hj2 : j < xs.length * R.k := by simpa using hj
   conv => rhs; rw [← ht, R.flat_take, List.getElem?_take, if_pos hj2]
  show (R.flat full).toArray[j]? = some (id _)
  rw [List.getElem?_toArray, e3, ← e2]
  rfl
theorem putCells_flat (xs ys full : List α) (hl : ys.length = xs.length) (hf : full.take xs.length = xs) (hn : xs.length ≤ full.length) :
  (putCells id 0 (flatK R.enc R.k ys.toArray) (R.flat full).toArray) = (R.flat (ys ++ full.drop xs.length)).toArray := by
 apply Array.toList_inj.1
 apply List.ext_getElem?
 intro p
 have hsz : (flatK R.enc R.k ys.toArray).size = xs.length * R.k := by simp [hl]
 rw [show (R.flat (ys ++ full.drop xs.length)).toArray.toList = R.flat (ys ++ full.drop xs.length) by simp, R.flat_app, R.flat_drop]
 rw [Array.getElem?_toList]
 unfold putCells
 rw [Array.getElem?_mapIdx, List.getElem?_toArray]
 by_cases hp : p < xs.length * R.k
 ·
  have hs : p < (flatK R.enc R.k ys.toArray).size := by omega
  have hp2 : p < (R.flat full).length := by rw [R.flat_len]; exact Nat.lt_of_lt_of_le hp (Nat.mul_le_mul_right _ hn)
  rw [List.getElem?_append_left (by rw [R.flat_len, hl]; exact hp), List.getElem?_eq_getElem hp2]
  simp only [Option.map_some, Nat.zero_le, true_and, Nat.zero_add]
  rw [if_pos hs, Nat.sub_zero, getElem!_pos (flatK R.enc R.k ys.toArray) _ hs]
  have e := flatK_flat (R := R) ys.toArray
  have e2 : (flatK R.enc R.k ys.toArray)[p]? = (R.flat ys)[p]? := by rw [← Array.getElem?_toList, e]
  rw [← e2, Array.getElem?_eq_getElem hs]
  rfl
 ·
  rw [List.getElem?_append_right (by rw [R.flat_len, hl]; omega), R.flat_len, hl, List.getElem?_drop, show xs.length * R.k + (p - xs.length * R.k) = p by omega]
  cases (R.flat full)[p]? with
  | none => rfl
  | some v =>
   simp only [Option.map_some]
   rw [if_neg (by rw [hsz]; omega)]
theorem OwnK.sorted {w : World} {g c : Nat} {xs ys : List α} (h : OwnK R w (some ⟨g, 0, none⟩) c xs) (hl : ys.length = xs.length) (n : Nat) (os : Array Obj) :
  OwnK R (sortWorldK R.enc R.k w g 0 n ys.toArray os) (some ⟨g, 0, none⟩) c ys ∧ Chg [g] w (sortWorldK R.enc R.k w g 0 n ys.toArray os) := by
 rcases h with ⟨h, _⟩ | ⟨g', full, h, hg, hfl, hm, hn, ht⟩
 ·
  cases h
 ·
  cases h
  have hsz : (sortWorldK R.enc R.k w g 0 n ys.toArray os).heap = (w.heap.modify g (onCells (putCells id 0 (flatK R.enc R.k ys.toArray)))) ++ os := rfl
  have hgl := lt_of_heap hg
  refine ⟨.inr ⟨g, ys ++ full.drop xs.length, rfl, ?_, by simp; omega, hm, by omega, ?_⟩, ⟨rfl, rfl, rfl, by rw [hsz]; simp, fun i hi hne => ?_⟩⟩
  ·
   rw [hsz, Array.getElem?_append_left (by simpa using hgl), Array.getElem?_modify, if_pos rfl, hg]
   simp only [Option.map_some, onCells]
   rw [putCells_flat xs ys full hl ht (by omega)]
  ·
   exact List.take_left
  ·
   rw [hsz, Array.getElem?_append_left (by simpa using hi), Array.getElem?_modify, if_neg (by simp at hne; exact fun h => hne h.symm)]
end
end
section
open Go.RowKit Go.Sort Go.Shelf

theorem grow_ofp {w w' : World} (h : Chg [] w w') (hd : w.drawn ≤ w'.drawn) : ∃ q os, w' = Sort.grow (w.drewN q) os := by
 refine ⟨w'.drawn - w.drawn, w'.heap.extract w.heap.size w'.heap.size, ?_⟩
 obtain ⟨h1, h2, h3, h4, h5⟩ := h
 obtain ⟨hp, tp, dr, os, ou⟩ := w'
 obtain ⟨hp0, tp0, dr0, os0, ou0⟩ := w
 simp only at h1 h2 h3 h4 h5 hd ⊢
 subst h1 h2 h3
 simp only [Sort.grow, World.drewN, World.mk.injEq, true_and, and_true]
 refine ⟨?_, by omega⟩
 apply Array.ext_getElem?
 intro i
 by_cases hi : i < hp0.size
 ·
  rw [Array.getElem?_append_left hi]
  exact h5 i hi (by simp)
 ·
  rw [Array.getElem?_append_right (by omega), Array.getElem?_extract]
  by_cases hj : i < hp.size
  ·
   rw [if_pos (by omega)]
   congr 1
   omega
  ·
   rw [if_neg (by omega), Array.getElem?_eq_none (by omega)]
def CmpSays {α : Type} [Inhabited α] (R : RowTy α) (g : Nat) (cf : α → α → Int) : Prop :=
 ∀ (W : World) (x y : α), Calls Tryz.prog g #[.agg (R.enc x).toArray, .agg (R.enc y).toArray] W fun e w' => e = .returned (.int .i64 (cf x y)) ∧ Chg [] W w' ∧ W.drawn ≤ w'.drawn
theorem sortp_some {α : Type} [Inhabited α] {R : RowTy α} {ρ : Ren} (L : SlLaysF0.n6 Tryz.prog ρ) (aE : ∀ w, (isAgg (ρ.t 24)).run Tryz.prog w = .ok true w) (zE : ∀ w, (Go.sizeOf (ρ.t 24)).run Tryz.prog w = .ok R.k w) (cf : α → α → Int) (hO : SWO (ltOf cf)) (g : Nat) (eg : ∀ args w, (callFunc g args).run Tryz.prog w = .ok (.enter g args) w)
  (hcmp : CmpSays R g cf) (w : World) (b c : Nat) (xs : List α) (h : OwnK R w (some ⟨b, 0, none⟩) c xs) (hm : xs.length < 4611686018427387904) :
  Calls Tryz.prog (ρ.f 6) #[.slice (some ⟨b, 0, none⟩) xs.length c, .func (.func g) #[] #[]] w fun e w' => e = .returned (.tuple #[]) ∧ ∃ ys, ys.Perm xs ∧ ys.Pairwise (fun x y => ltOf cf y x = false) ∧ OwnK R w' (some ⟨b, 0, none⟩) c ys ∧ Chg [b] w w' := by
 have hblk : b < w.heap.size := h.lt_ _ rfl
 have hc2 : CmpLays Tryz.prog g #[] R.enc R.k cf b 0 xs.toArray.size w := fun m os dk _ x y => by
  have := (hcmp (sortWorldK R.enc R.k w b 0 m dk os) x y).mono (fun e w' ⟨he, hc, hd⟩ => (⟨he, grow_ofp hc hd⟩ : e = Ending.returned (.int .i64 (cf x y)) ∧ ∃ q os', w' = grow ((sortWorldK R.enc R.k w b 0 m dk os).drewN q) os'))
  exact this
 have hcon := AnyQ.slices_SortFunc L R.k aE zE R.enc R.klen R.one cf hO g #[] b 0 c xs.toArray w eg hc2 h.holds hblk (by simpa using hm)
 refine Calls.mono hcon ?_
 rintro e w' ⟨he, d', n, os, ⟨hsz, _, hp⟩, hs, hw⟩
 have hlen : d'.toList.length = xs.length := by simpa using hsz
 have hsz2 : d'.size = xs.toArray.size := hsz
 have hp2 : d'.toList.Perm xs := by
  rw [← hsz, Array.extract_size] at hp
  rw [hsz, Array.extract_size] at hp
  simpa using hp
 have o := h.sorted (ys := d'.toList) hlen n os
 rw [show d'.toList.toArray = d' by simp, ← hw] at o
 refine ⟨he, d'.toList, hp2, ?_, o.1, o.2⟩
 rw [List.pairwise_iff_getElem]
 intro i j hi hj hij
 have hi' : i < d'.size := by simpa using hi
 have hj' : j < d'.size := by simpa using hj
 have := hs i j (Nat.zero_le _) hij (by rw [← hsz2]; exact hj')
 rw [getElem!_pos d' j hj', getElem!_pos d' i hi'] at this
 simpa using this
theorem sortp_any {α : Type} [Inhabited α] {R : RowTy α} {ρ : Ren} (L : SlLaysF0.n6 Tryz.prog ρ) (aE : ∀ w, (isAgg (ρ.t 24)).run Tryz.prog w = .ok true w) (zE : ∀ w, (Go.sizeOf (ρ.t 24)).run Tryz.prog w = .ok R.k w) (cf : α → α → Int) (hO : SWO (ltOf cf)) (g : Nat) (eg : ∀ args w, (callFunc g args).run Tryz.prog w = .ok (.enter g args) w)
  (hcmp : CmpSays R g cf) (w : World) (A : Option Addr) (c : Nat) (xs : List α) (h : OwnK R w A c xs) (hm : xs.length < 4611686018427387904) :
  Calls Tryz.prog (ρ.f 6) #[.slice A xs.length c, .func (.func g) #[] #[]] w fun e w' => e = .returned (.tuple #[]) ∧ ∃ ys, ys.Perm xs ∧ ys.Pairwise (fun x y => ltOf cf y x = false) ∧ OwnK R w' A c ys ∧ Chg (blkOf A) w w' := by
 rcases h.shape with ⟨rfl, rfl, rfl⟩ | ⟨b, rfl, _⟩
 ·
  have := AnyF.slices_SortFunc_none L none 0 (.func (.func g) #[] #[]) w
  refine Calls.mono this ?_
  rintro e w' ⟨he, rfl⟩
  exact ⟨he, [], List.Perm.refl _, List.Pairwise.nil, OwnK.none_ _, Chg.refl _ _⟩
 ·
  exact sortp_some L aE zE cf hO g eg hcmp w b c xs h hm
end
section
open Go.RowKit Go.Lib


def Gr (w w' : World) : Prop := Chg [] w w' ∧ w.drawn ≤ w'.drawn
theorem Gr.trans {a b c : World} (h : Gr a b) (k : Gr b c) : Gr a c := ⟨h.1.trans k.1, Nat.le_trans h.2 k.2⟩
theorem gr2 (w : World) (o o' : Obj) : ∃ w' : World, w' = (w.alloc o).alloc o' ∧ Gr w w' ∧ w'.heap[w.heap.size]? = some o ∧ w'.heap[w.heap.size + 1]? = some o' := by
 obtain ⟨w', h, c, b0, b1⟩ := news2 w o o'
 exact ⟨w', h, ⟨c, by rw [h]; exact Nat.le_refl _⟩, b0, b1⟩
theorem dcmp_gr (w : World) (a s b t : Int) :
    Calls Tryz.prog 122 #[.agg #[.int .i64 a, .int .i64 s], .agg #[.int .i64 b, .int .i64 t]] w fun e w' => e = .returned (.int .i64 (cmpD a s b t)) ∧ Gr w w' := by
  obtain ⟨w0, hw0, c0, b0, b1⟩ := news2 w (.cells #[.int .i64 a, .int .i64 s] 35) (.cells #[.int .i64 b, .int .i64 t] 35)
  obtain ⟨k0, k1⟩ := ce2 b0
  obtain ⟨k3, k4⟩ := ce2 b1
  have g0 := lt_of_heap b0
  have g1 := lt_of_heap b1
  have W0 := h_ hw0
  have GR : Hid (∀ o, Gr w (w0.alloc o).drew) := h_ (fun o => ⟨(c0.alloc o).drew, by rw [hw0]; exact Nat.le_succ _⟩)
  clear hw0 c0 b0 b1
  unfold cmpD
  generalize hr : or2 (cmpI a b) (cmpI s t) = R
  have HR := h_ hr
  clear hr
  go_enter Tryz.func122, Tryz.ntmps122
  go_wp2
  rw [← W0.out]
  have n1 := World.new_ne w0 ⟨w.heap.size, 0, none⟩ k0
  have n2 := World.new_ne w0 ⟨w.heap.size + 1, 0, none⟩ k3
  generalize w.heap.size + 1 = s1 at *
  generalize w.heap.size = s0 at *
  go_region_held3 (fun w' => w'.cell? ⟨s0, 0, none⟩ = some (.int .i64 a) ∧ w'.cell? ⟨s0, 1, none⟩ = some (.int .i64 s) ∧ w'.cell? ⟨s1, 0, none⟩ = some (.int .i64 b) ∧ w'.cell? ⟨s1, 1, none⟩ = some (.int .i64 t)) (first | exact ⟨k0, k1, k3, k4⟩ | go_keep)
    ((first
      | (go_at_call 173; (with_reducible refine (cmpint_any _ _ _).mono ?_); rintro e w1 ⟨rfl, rfl⟩)
      | (go_at_call 172; refine (or2_any _ w0.heap.size (cmpI a b) (cmpI s t) (show (w0.alloc _).drew.heap[_]? = _ from heap_alloc_new w0 _)).mono ?_; rintro e w1 ⟨rfl, rfl⟩)))
  all_goals
    go_wp2; go_ret
    exact ⟨by first | rfl | (rw [← HR.out]; rfl), GR.out _⟩
theorem dless_gr (w : World) (a s b t : Int) :
  Calls Tryz.prog 74 #[.agg #[.int .i64 a, .int .i64 s], .agg #[.int .i64 b, .int .i64 t]] w fun e w' => e = .returned (.bool (decide (LtD a s b t))) ∧ Gr w w' := by
 have h : decide (cmpD a s b t < 0) = decide (LtD a s b t) := decide_eq_decide.2 cmpD_lt
 generalize decide (LtD a s b t) = B at *
 go_enter Tryz.func74, Tryz.ntmps74
 go_wp2_with fail
 refine (dcmp_gr _ _ _ _ _).mono ?_
 rintro e w1 ⟨rfl, c1⟩
 have C1 : Hid (Gr w w1) := h_ (Gr.trans ⟨((Chg.refl [] w).alloc _).alloc _, Nat.le_refl _⟩ c1)
 clear c1; go_wp2; go_ret
 exact ⟨rfl, C1.out⟩
theorem cmpD_is (a s b t : Int) : cmpD a s b t = if LtD a s b t then -1 else if LtD b t a s then 1 else 0 := by
 have h1 := @cmpD_lt a s b t
 unfold cmpD or2 cmpI at *
 unfold LtD
 split <;> split <;> (try split) <;> omega
set_option maxRecDepth 100000 in
theorem orderof_gr (w : World) (a s b t : Int) :
  Calls Tryz.prog 73 #[.agg #[.int .i64 a, .int .i64 s], .agg #[.int .i64 b, .int .i64 t], .func (.func 74) #[] #[]] w fun e w' => e = .returned (.int .i64 (cmpD a s b t)) ∧ Gr w w' := by
 obtain ⟨w0, hw0, c0, b0, b1⟩ := gr2 w (.cells #[.int .i64 a, .int .i64 s] 35) (.cells #[.int .i64 b, .int .i64 t] 35)
 have W0 := h_ hw0
 have G := h_ c0
 have B0 := h_ b0
 have B1 := h_ b1
 rw [cmpD_is]
 clear hw0 c0 b0 b1
 go_enter Tryz.func73, Tryz.ntmps73
 go_upto_region 1 with fail
 rw [← W0.out]
 generalize w.heap.size + 1 = s1 at *
 generalize w.heap.size = s0 at *
 obtain ⟨k0, k1⟩ := ce2 B0.out
 obtain ⟨k3, k4⟩ := ce2 B1.out
 go_wp2_with fail; clear k0 k1 k3 k4
 refine (dless_gr _ _ _ _ _).mono ?_
 rintro e w1 ⟨rfl, c1⟩
 replace G := h_ (G.out.trans c1)
 replace B0 := h_ (c1.1.at_ B0.out (by simp))
 replace B1 := h_ (c1.1.at_ B1.out (by simp))
 clear c1
 by_cases h1 : LtD a s b t
 ·
  rw [decide_eq_true h1]
  have H1 := h_ h1
  clear h1; go_wp2; go_ret
  exact ⟨by first | rfl | rw [if_pos H1.out], G.out⟩
 rw [decide_eq_false h1]
 have N1 := h_ h1
 clear h1
 obtain ⟨k0, k1⟩ := ce2 B0.out
 obtain ⟨k3, k4⟩ := ce2 B1.out
 go_wp2_with fail; clear k0 k1 k3 k4
 refine (dless_gr _ _ _ _ _).mono ?_
 rintro e w2 ⟨rfl, c1⟩
 replace G := h_ (G.out.trans c1)
 clear c1
 by_cases h1 : LtD b t a s
 ·
  rw [decide_eq_true h1]
  have H1 := h_ h1
  clear h1; go_wp2; go_ret
  exact ⟨by first | rfl | rw [if_neg N1.out, if_pos H1.out], G.out⟩
 ·
  rw [decide_eq_false h1]
  have H1 := h_ h1
  clear h1; go_wp2; go_ret
  exact ⟨by first | rfl | rw [if_neg N1.out, if_neg H1.out], G.out⟩
set_option maxRecDepth 100000 in
theorem evbydot_gr (w : World) (x : EvT) (n s : Int) :
  Calls Tryz.prog 55 #[.agg #[.int .i64 x.n, .int .i64 x.s, .string x.p, .int .i64 x.k, .int .i64 x.m, .slice x.A x.l x.c, .slice x.B x.bl x.bc], .agg #[.int .i64 n, .int .i64 s]] w fun e w' => e = .returned (.int .i64 (cmpD x.n x.s n s)) ∧ Gr w w' := by
 obtain ⟨w0, hw0, c0, b0, b1⟩ := gr2 w (.cells #[.int .i64 x.n, .int .i64 x.s, .string x.p, .int .i64 x.k, .int .i64 x.m, .slice x.A x.l x.c, .slice x.B x.bl x.bc] 40) (.cells #[.int .i64 n, .int .i64 s] 35)
 have W0 := h_ hw0
 have G := h_ c0
 obtain ⟨k0, k1, k2, k3, k4, k5, k6⟩ := ce7 b0
 obtain ⟨d0, d1⟩ := ce2 b1
 clear hw0 c0 b0 b1
 go_enter Tryz.func55, Tryz.ntmps55
 go_upto_region 1 with fail
 rw [← W0.out]
 generalize w.heap.size + 1 = s1 at *
 generalize w.heap.size = s0 at *
 go_wp2_with fail
 refine (orderof_gr _ _ _ _ _).mono ?_
 rintro e w1 ⟨rfl, c1⟩
 replace G := h_ (G.out.trans c1)
 clear c1 k0 k1 k2 k3 k4 k5 k6 d0 d1; go_wp2; go_ret
 exact ⟨rfl, G.out⟩
instance : Inhabited EvT := ⟨evTy.z⟩
def cmpEv (x y : EvT) : Int := cmpD x.n x.s y.n y.s
theorem ltEv (x y : EvT) : ltOf cmpEv x y = decide (LtD x.n x.s y.n y.s) := by
 unfold ltOf cmpEv
 exact decide_eq_decide.2 cmpD_lt
theorem swoEv : Go.Sort.SWO (ltOf cmpEv) where
 irrefl x := by rw [ltEv]; simp [LtD]
 trans x y z h1 h2 := by
  rw [ltEv, decide_eq_true_eq] at *
  unfold LtD at *
  omega
 ntrans x y z h1 h2 := by
  rw [ltEv, decide_eq_false_iff_not] at *
  unfold LtD at *
  omega
set_option maxRecDepth 100000 in
theorem evcmp_says : CmpSays evTy 54 cmpEv := fun w x y => by
 show Calls Tryz.prog 54 #[.agg #[.int .i64 x.n, .int .i64 x.s, .string x.p, .int .i64 x.k, .int .i64 x.m, .slice x.A x.l x.c, .slice x.B x.bl x.bc], .agg #[.int .i64 y.n, .int .i64 y.s, .string y.p, .int .i64 y.k, .int .i64 y.m, .slice y.A y.l y.c, .slice y.B y.bl y.bc]] w fun e w' => e = .returned (.int .i64 (cmpD x.n x.s y.n y.s)) ∧ Gr w w'
 obtain ⟨w0, hw0, c0, b0, b1⟩ := gr2 w (.cells #[.int .i64 x.n, .int .i64 x.s, .string x.p, .int .i64 x.k, .int .i64 x.m, .slice x.A x.l x.c, .slice x.B x.bl x.bc] 40) (.cells #[.int .i64 y.n, .int .i64 y.s, .string y.p, .int .i64 y.k, .int .i64 y.m, .slice y.A y.l y.c, .slice y.B y.bl y.bc] 40)
 have W0 := h_ hw0
 have G := h_ c0
 obtain ⟨k0, k1, k2, k3, k4, k5, k6⟩ := ce7 b0
 obtain ⟨d0, d1, d2, d3, d4, d5, d6⟩ := ce7 b1
 clear hw0 c0 b0 b1
 go_enter Tryz.func54, Tryz.ntmps54
 go_upto_region 1 with fail
 rw [← W0.out]
 generalize w.heap.size + 1 = s1 at *
 generalize w.heap.size = s0 at *
 go_wp2_with fail
 refine (evbydot_gr _ x _ _).mono ?_
 rintro e w1 ⟨rfl, c1⟩
 replace G := h_ (G.out.trans c1)
 clear c1 k0 k1 k2 k3 k4 k5 k6 d0 d1 d2 d3 d4 d5 d6; go_wp2; go_ret
 exact ⟨rfl, G.out⟩
set_option maxRecDepth 100000 in
theorem cloneEv_any (w : World) (A : Option Addr) (n c : Nat) (xs : List EvT) (h : RdK evTy w A n xs) (hn : n * 400 ≤ 140737488355327) :
  Calls Tryz.prog 52 #[.slice A n c] w fun e w' => ∃ A' c', e = .returned (.slice A' n c') ∧ OwnK evTy w' A' c' xs ∧ (∀ a, A' = some a → w.heap.size ≤ a.block) ∧ Chg [] w w' := by
 have heq := fun W => Lib.run_eql_slice_nil (P := Tryz.prog) W 22 40 A n c 0 0 Tryz.underlying22
 cases A with
 | none =>
  have hx := rdk_nil h
  subst hx
  have hl : n = 0 := h.len.symm
  subst hl; clear h
  go_enter Tryz.func52, Tryz.ntmps52
  go_wp2; go_ret
  exact ⟨none, 0, rfl, OwnK.none_ _, by simp, Chg.refl _ _⟩
 | some ad =>
  obtain ⟨w1, hw1, c1, b1⟩ := news1 w (.cells #[] 40)
  have W1 := h_ hw1
  have HA := h_ (h.chg c1 (by simp))
  have HO : Hid (OwnK evTy w1 (some ⟨w.heap.size, 0, none⟩) 0 []) := h_ (.of (full := []) b1 (Nat.le_refl _) (Nat.zero_le _) rfl rfl)
  have C1 := h_ c1
  have HN : Hid ((0 + n) * 400 ≤ 140737488355327) := h_ (by rw [Nat.zero_add]; exact hn)
  clear hw1 c1 b1 h hn
  go_enter Tryz.func52, Tryz.ntmps52
  go_wp2_with (at_builtin; rw [← W1.out]; refine wpList_appK rfl _ _ rfl rfl HO.out rfl rfl HA.out HN.out ?_; intro A2 c2 w2 u2 d2 e2)
  go_ret
  rw [Nat.zero_add] at *
  have hA2 : ∀ a, A2 = some a → w.heap.size ≤ a.block := by
   rintro a rfl
   rcases e2 with h | h
   ·
    cases h; exact Nat.le_refl _
   ·
    cases h; exact C1.out.size
  exact ⟨A2, c2, rfl, by simpa using u2, hA2, C1.out.grown d2 (fun k hk => by simp at hk; subst hk; exact .inr (Nat.le_refl _))⟩
end
section
open Go.RowKit Go.Lib

section
variable {α : Type} {R : RowTy α}
theorem run_copyK (w : World) (ty : TypeId) {g off dLen dCap sLen sCap : Nat} {B : Option Addr} {ys full : List α} (hg : w.heap[g]? = some (.cells (R.flat full).toArray R.T (0, 0))) (hr : RdK R w B ys.length ys) (hn : ys.length = Nat.min sLen dLen) (hfit : off + ys.length ≤ full.length) :
  (Builtin.copy_ #[R.TS, R.TS] ty #[.slice (some ⟨g, off * R.k, none⟩) dLen dCap, .slice B sLen sCap]).run Tryz.prog w = .ok (goInt ys.length) (w.setRow g (R.flat (full.take off ++ ys ++ full.drop (off + ys.length))).toArray) := by
 obtain ⟨i0, hi, hz0, hz1, hz2⟩ := info_parts R.info
 have hm : Nat.min sLen dLen = ys.length := hn.symm
 have hst := run_storeCells_at (P := Tryz.prog) g (off * R.k) R.T (R.flat ys) 0 _ w hg (by rw [R.flat_len, List.size_toArray, R.flat_len, Nat.add_zero, ← Nat.add_mul]; exact Nat.mul_le_mul_right _ hfit) (R.flat_one ys)
 have hfin : ((R.flat full).toArray.toList.take (off * R.k + 0) ++ R.flat ys ++ (R.flat full).toArray.toList.drop (off * R.k + 0 + (R.flat ys).length)) = R.flat (full.take off ++ ys ++ full.drop (off + ys.length)) := by
  rw [R.flat_app, R.flat_app, R.flat_take, R.flat_drop, R.flat_len, Nat.add_zero, ← Nat.add_mul]
 rw [hfin] at hst
 have hfc : ∀ l c, (Builtin.firstCells i0.size ys.length (.slice B l c)).run Tryz.prog w = .ok (R.flat ys).toArray w := fun l c => by
  rcases B with _ | b
  ·
   have hy : ys = [] := by
    cases ys with
    | nil => rfl
    | cons y ys =>
     have : 0 < (R.flat (y :: ys)).length := by rw [R.flat_len, List.length_cons]; exact Nat.mul_pos (by omega) R.kpos
     obtain ⟨a, h, _⟩ := hr.cells 0 _ (List.getElem?_eq_getElem this); cases h
   subst hy
   simp [Builtin.firstCells, RowTy.flat]
  ·
   exact run_firstCells_some (P := Tryz.prog) w i0.size ys.length b l c (R.flat ys) (by rw [hz1, R.flat_len]) (fun j v hj => by
    obtain ⟨a, e, hc⟩ := hr.cells j v hj
    cases e
    exact hc)
 simp [Builtin.copy_, run_underlying R.under, sizeOf, typeInfo, hi, Builtin.lenOf, hm, hfc, hst]
end
theorem wp_copyR (w : World) {o : Oper} {a : Act} {K : Act → World → Prop} {Q : Exit → Act → World → Prop} (d s : Operand) (t t' : TypeId)
  (ho : o.op = .call { callee := .builtin .copy, args := #[d, s], argTypes := #[t, t'] }) (v u : Value) (hd : a.eval d = v) (hs : a.eval s = u) {v' : Value} {w' : World}
  (hr : (Builtin.copy_ #[t, t'] o.type #[v, u]).run Tryz.prog w = .ok v' w') (h : K (a.put o.dst v') w') : o.wp Tryz.prog a w K Q := by
 unfold Oper.wp execOp
 simp only [ho, resolve, invoke, builtin, Sem.run_bind, Sem.run_pure, Result.andThen_ok, List.map_toArray, List.map_cons, List.map_nil, hd, hs, hr]
 exact h
theorem wpList_copyR (w : World) {ops : Array Oper} {rest : List Oper} {o : Oper} {a : Act} {Q : Exit → Act → World → Prop} (hgd : o.guard = none) (d s : Operand) (t t' : TypeId)
  (ho : o.op = .call { callee := .builtin .copy, args := #[d, s], argTypes := #[t, t'] }) (v u : Value) (hd : a.eval d = v) (hs : a.eval s = u) {v' : Value} {w' : World}
  (hr : (Builtin.copy_ #[t, t'] o.type #[v, u]).run Tryz.prog w = .ok v' w') (h : wpList Tryz.prog ops Q rest (a.put o.dst v') w') : wpList Tryz.prog ops Q (o :: rest) a w :=
 wpList_plain hgd fun _ hK => wp_copyR w d s t t' ho v u hd hs hr (hK _ _ h)
theorem step_copyR {ops : Array Oper} {o : Oper} {a : Act} {w : World} {K : Act → World → Prop} {Q : Exit → Act → World → Prop} {E : Prop}
  (hg : o.guard = none) (d x : Operand) (dT sT : TypeId) (hop : o.op = Op.call { callee := Callee.builtin Builtin.copy, args := #[d, x], argTypes := #[dT, sT] })
  (v u : Value) (hd : a.eval d = v) (hx : a.eval x = u) {v' : Value} {w' : World} (hr : (Builtin.copy_ #[dT, sT] o.type #[v, u]).run Tryz.prog w = .ok v' w') (hK : K (a.put o.dst v') w') :
  if Region.wanted o (yielded ops a.tmps) = true then Oper.wp Tryz.prog o a w K Q else E := by
 have hw : Region.wanted o (yielded ops a.tmps) = true := by simp [Region.wanted, hg]
 rw [if_pos hw]
 exact wp_copyR w d x dT sT hop v u hd hx hr hK
section
variable {α : Type} {R : RowTy α}
end
end
section
open Go.RowKit Go.Lib


theorem ins_row1 {α : Type} {full xs : List α} {y : α} {i : Nat} (ht : full.take xs.length = xs) (hi : i < xs.length) : ((full.take (i + 1) ++ xs.drop i ++ full.drop (i + 1 + (xs.drop i).length)).take i ++ [y] ++ (full.take (i + 1) ++ xs.drop i ++ full.drop (i + 1 + (xs.drop i).length)).drop (i + [y].length)).take (xs.take i ++ y :: xs.drop i).length = xs.take i ++ y :: xs.drop i := by
 have hc : xs.length ≤ full.length := by have := congrArg List.length ht; rw [List.length_take] at this; omega
 have hl : (full.take (i + 1)).length = i + 1 := by rw [List.length_take]; omega
 have e1 : (full.take (i + 1) ++ xs.drop i ++ full.drop (i + 1 + (xs.drop i).length)).take i = xs.take i := by
  rw [List.append_assoc, List.take_append_of_le_length (by omega), List.take_take, Nat.min_eq_left (by omega), ← ht, List.take_take, Nat.min_eq_left (by omega)]
 have e2 : (full.take (i + 1) ++ xs.drop i ++ full.drop (i + 1 + (xs.drop i).length)).drop (i + [y].length) = xs.drop i ++ full.drop (i + 1 + (xs.drop i).length) := by
  rw [List.append_assoc, List.drop_append_of_le_length (by rw [List.length_singleton]; omega), List.drop_of_length_le (by rw [List.length_singleton]; omega), List.nil_append]
 rw [e1, e2]
 have e3 : xs.take i ++ [y] ++ (xs.drop i ++ full.drop (i + 1 + (xs.drop i).length)) = (xs.take i ++ y :: xs.drop i) ++ full.drop (i + 1 + (xs.drop i).length) := by simp
 rw [e3, List.take_left]
theorem ins_row2 {α : Type} {xs R : List α} {y : α} {i : Nat} (hi : i < xs.length) (hR : xs.length + 1 - i ≤ R.length) : (((xs.take i ++ R).take i ++ [y] ++ (xs.take i ++ R).drop (i + [y].length)).take (i + 1) ++ xs.drop i ++ ((xs.take i ++ R).take i ++ [y] ++ (xs.take i ++ R).drop (i + [y].length)).drop (i + 1 + (xs.drop i).length)).take (xs.take i ++ y :: xs.drop i).length = xs.take i ++ y :: xs.drop i := by
 have hl : (xs.take i).length = i := by rw [List.length_take]; omega
 have e1 : (xs.take i ++ R).take i = xs.take i := by rw [List.take_append_of_le_length (by omega), List.take_take, Nat.min_self]
 rw [e1]
 have e2 : (xs.take i ++ [y] ++ (xs.take i ++ R).drop (i + [y].length)).take (i + 1) = xs.take i ++ [y] := by
  rw [List.take_append_of_le_length (by simp; omega), List.take_of_length_le (by simp; omega)]
 rw [e2]
 have e3 : ∀ T : List α, xs.take i ++ [y] ++ xs.drop i ++ T = (xs.take i ++ y :: xs.drop i) ++ T := fun T => by simp
 rw [e3, List.take_left]
set_option maxRecDepth 100000 in
theorem insev_any (w : World) (A : Option Addr) (c : Nat) (xs : List EvT) (i vb : Nat) (y : EvT) (h : OwnK evTy w A c xs) (hi : i ≤ xs.length) (hn : xs.length ≤ 100000) (hv : w.heap[vb]? = some (.cells #[.int .i64 y.n, .int .i64 y.s, .string y.p, .int .i64 y.k, .int .i64 y.m, .slice y.A y.l y.c, .slice y.B y.bl y.bc] 40 (0, 0))) (hne : ∀ a, A = some a → a.block ≠ vb) :
  Calls Tryz.prog 163 #[.slice A xs.length c, .int .i64 (i : Int), .slice (some ⟨vb, 0, none⟩) 1 1] w fun r w' => ∃ (A' : Option Addr) (c' : Nat), r = .returned (.slice A' (xs.length + 1) c') ∧ OwnK evTy w' A' c' (xs.take i ++ y :: xs.drop i) ∧ (∀ a, A' = some a → A = some a ∨ w.heap.size ≤ a.block) ∧ ∀ w0 : World, Chg [] w0 w → (∀ a, A = some a → w0.heap.size ≤ a.block) → Chg [] w0 w' := by

 have XR : Hid (RdK evTy w (some ⟨vb, 0, none⟩) 1 [y]) := h_ (rd_oneEc hv)
 have HN : Hid ((xs.length + 1) * 400 ≤ 140737488355327) := h_ (by omega)
 have O := h_ h
 have n1 : ¬ ((1 : Int) = 0) := by decide
 by_cases hil : i = xs.length
 ·
  subst hil
  have NL : Hid ((xs.take xs.length ++ y :: xs.drop xs.length) = xs ++ [y]) := h_ (by simp)
  have e1 : (((xs.length : Int) == (xs.length : Int)) : Bool) = true := by simp
  clear h hi hn hv hne
  go_enter Tryz.func163, Tryz.ntmps163
  go_wp2_with (at_builtin; refine wpList_appK (R := evTy) rfl (.tmp 23) (.tmp 24) rfl rfl (A := A) (n := xs.length) (m := 1) (c := c) (d := 1) (xs := xs) (ys := [y]) O.out rfl rfl XR.out HN.out ?_; intro A9 c9 w9 o9 g9 e9)
  all_goals (
   have O9 := h_ o9
   have E9 := h_ e9
   have G9 := h_ (fun (w0 : World) (h0 : Chg [] w0 w) (hA : ∀ a, A = some a → w0.heap.size ≤ a.block) => (fresh_appE (w2 := w0) hA h0 g9 e9).2)
   clear o9 g9 e9; go_wp2; go_ret
   refine ⟨A9, c9, rfl, (by first | exact O9.out | (rw [NL.out]; exact O9.out)), (fun a ha => E9.out.elim (fun q => .inl (q ▸ ha)) (fun q => .inr (by rw [q] at ha; cases ha; exact Nat.le_refl _))), G9.out⟩)
 ·
  obtain ⟨g, full, rfl, hg, hfl, hcm, hnc, hft⟩ : ∃ (g : Nat) (full : List EvT), A = some ⟨g, 0, none⟩ ∧ w.heap[g]? = some (.cells (evTy.flat full).toArray 40 (0, 0)) ∧ full.length = c ∧ c ≤ maxLen ∧ xs.length ≤ c ∧ full.take xs.length = xs := by
   rcases h with ⟨_, q, _⟩ | q
   ·
    subst q
    have : i = 0 := by simpa using hi
    exact absurd this hil
   ·
    exact q
  have k7 : evTy.k = 7 := rfl
  have gv : g ≠ vb := hne _ rfl
  have lg := lt_of_heap hg
  have lv := lt_of_heap hv
  have i0 : (0 : Int) ≤ (i : Int) := by omega
  have i1 : (i : Int) ≤ (xs.length : Int) := by omega
  have i2 : i ≤ xs.length := hi
  have e1 : (((i : Int) == (xs.length : Int)) : Bool) = false := by simp; omega
  have e2 : ¬ (i : Int) = (xs.length : Int) := by omega
  have w1 : IntKind.i64.wrap ((xs.length : Int) + 1) = ((xs.length + 1 : Nat) : Int) := by rw [IntWalk.i64_in _ (by omega)]; omega
  have w2 : IntKind.i64.wrap ((i : Int) + 1) = ((i + 1 : Nat) : Int) := by rw [IntWalk.i64_in _ (by omega)]; omega
  have DR : Hid (RdK evTy w (some ⟨g, i * 7, none⟩) (xs.length - i) (xs.drop i)) := h_ (by
   have q := (h.reads).part i (xs.length - i) (by omega)
   rw [List.take_of_length_le (by rw [List.length_drop]; omega), Nat.zero_add] at q
   exact q)
  by_cases hr : xs.length + 1 ≤ c
  ·
   have HOV : ∀ lb cb, (callFunc 195 #[.slice (some ⟨vb, 0, none⟩) 1 1, .slice (some ⟨g, (i + 1) * 7, none⟩) lb cb]).run Tryz.prog w = .ok (.value (.bool false)) w := fun lb cb => by
    have ho := run_overlaps_apart (P := Tryz.prog) w 22 4 40 Tryz.underlying22 7 (fun w => by first | rfl | kernel_rfl) ⟨vb, 0, none⟩ ⟨g, (i + 1) * 7, none⟩ 1 1 lb cb (fun e => gv e.symm) 40 40 7 (c * 7) (by simp [World.shape?, hv]) (by simp [World.shape?, hg, evTy.flat_len, hfl, k7]) (by omega) (by simp [World.frozen?, hv]) (by simp [World.frozen?, hv])
    rw [run_callFunc_extern (e := Extern.SlicesOverlaps.overlaps #[22, 22] #[4]) Tryz.func195 (by kernel_rfl) (by kernel_rfl) (by kernel_rfl) (by kernel_rfl), ho]
    rfl
   have b1 : (0 : Int) ≤ ((xs.length + 1 : Nat) : Int) := by omega
   have b2 : ((xs.length + 1 : Nat) : Int) ≤ (c : Int) := by omega
   have b3 : xs.length + 1 ≤ c := by omega
   have b4 : ((i + 1 : Nat) : Int) ≤ ((xs.length + 1 : Nat) : Int) := by omega
   have b5 : i + 1 ≤ xs.length + 1 := by omega
   have b6 : ¬ c = i + 1 := by omega
   have b7 : ¬ c = i := by omega
   have b8 : (0 : Int) ≤ ((i + 1 : Nat) : Int) := by omega
   have b9 : ¬ (c : Int) < ((xs.length + 1 : Nat) : Int) := by omega
   have b10 : (i : Int) ≤ ((xs.length + 1 : Nat) : Int) := by omega
   have b11 : i ≤ xs.length + 1 := by omega
   have b12 : (0 : Int) ≤ (i : Int) + 1 := by omega
   have b13 : (i : Int) + 1 ≤ (xs.length : Int) + 1 := by omega
   have b14 : (i : Int) ≤ (xs.length : Int) + 1 := by omega
   have FG := h_ hg
   have FL := h_ hfl
   have FC := h_ hcm
   have FN := h_ hnc
   have FT := h_ hft
   have VB := h_ hv
   have GV := h_ gv
   clear h hi hn hv hne hg hfl hcm hnc hft gv lg lv O
   go_enter Tryz.func163, Tryz.ntmps163
   go_upto_region 14 with fail
   go_wp2_with (simp only [HOV])
   clear HOV
   obtain ⟨F1, hF1⟩ : ∃ F1, F1 = full.take (i + 1) ++ xs.drop i ++ full.drop (i + 1 + (xs.drop i).length) := ⟨_, rfl⟩
   have HCP : ∀ W, Chg [] w W → ∀ ty dc sc, (Builtin.copy_ #[22, 22] ty #[.slice (some ⟨g, (i + 1) * 7, none⟩) (xs.length - i) dc, .slice (some ⟨g, i * 7, none⟩) (xs.length + 1 - i) sc]).run Tryz.prog W = .ok (goInt (xs.drop i).length) (W.setRow g (evTy.flat F1).toArray) := fun W hW ty dc sc => by
    have q := run_copyK (R := evTy) W ty (g := g) (off := i + 1) (dLen := xs.length - i) (dCap := dc) (sLen := xs.length + 1 - i) (sCap := sc) (B := some ⟨g, i * 7, none⟩) (ys := xs.drop i) (full := full) (hW.at_ FG.out (by simp)) (by have := DR.out.chg hW (by simp); rw [List.length_drop]; exact this) (by rw [List.length_drop]; simp only [Nat.min_def]; split <;> omega) (by rw [List.length_drop, FL.out]; omega)
    rw [← hF1] at q
    exact q
   have L1 : Hid (F1.length = c) := h_ (by rw [hF1]; have := FL.out; simp; omega)
   have HC2 : ∀ W, W.heap[g]? = some (.cells (evTy.flat F1).toArray 40 (0, 0)) → RdK evTy W (some ⟨vb, 0, none⟩) 1 [y] → ∀ ty dc, (Builtin.copy_ #[22, 22] ty #[.slice (some ⟨g, i * 7, none⟩) (xs.length + 1 - i) dc, .slice (some ⟨vb, 0, none⟩) 1 1]).run Tryz.prog W = .ok (goInt ([y] : List EvT).length) (W.setRow g (evTy.flat (F1.take i ++ [y] ++ F1.drop (i + [y].length))).toArray) := fun W hg hv ty dc =>
    run_copyK (R := evTy) W ty (g := g) (off := i) (dLen := xs.length + 1 - i) (dCap := dc) (sLen := 1) (sCap := 1) (B := some ⟨vb, 0, none⟩) (ys := [y]) (full := F1) hg hv (by simp only [Nat.min_def, List.length_singleton]; split <;> omega) (by rw [L1.out]; simp; omega)
   have FIN : Hid ((F1.take i ++ [y] ++ F1.drop (i + [y].length)).take (xs.take i ++ y :: xs.drop i).length = xs.take i ++ y :: xs.drop i) := h_ (by rw [hF1]; exact ins_row1 FT.out (by omega))
   have LNI : Hid ((xs.take i ++ y :: xs.drop i).length = xs.length + 1) := h_ (by simp; omega)
   obtain ⟨F2, hF2⟩ : ∃ F2, F2 = F1.take i ++ [y] ++ F1.drop (i + [y].length) := ⟨_, rfl⟩
   have L2 : Hid (F2.length = c) := h_ (by rw [hF2]; have := L1.out; simp; omega)
   rw [← hF2] at FIN
   simp only [← hF2] at HC2
   clear hF1 hF2

   refine wp_region_held_drew (S := fun w' => True) (by kernel_rfl) trivial (fun hHeld => ?_)
   have hHeld := trivial
   refine sy 0 69 rfl rfl ?_ (hS := trivial)
   try simp only [Act.put, sA, s0, s1]
   refine sy 1 70 rfl rfl ?_ (hS := trivial)
   try simp only [Act.put, sA, s0, s1]
   refine sy 2 71 rfl rfl ?_ (hS := trivial)
   try simp only [Act.put, sA, s0, s1]
   refine sy 3 72 rfl rfl ?_ (hS := trivial)
   try simp only [Act.put, sA, s0, s1]
   refine sy 4 73 rfl rfl ?_ (hS := trivial)
   try simp only [Act.put, sA, s0, s1]
   refine sy 5 74 rfl rfl ?_ (hS := trivial)
   try simp only [Act.put, sA, s0, s1]
   refine sy 6 75 rfl rfl ?_ (hS := trivial)
   try simp only [Act.put, sA, s0, s1]
   refine sy 7 76 rfl rfl ?_ (hS := trivial)
   try simp only [Act.put, sA, s0, s1]
   refine on1 8 rfl (fun K hK => ?_)
   refine step_copyR rfl (.tmp 73) (.tmp 76) 22 22 rfl (.slice (some ⟨g, (i + 1) * 7, none⟩) (xs.length - i) (c - (i + 1))) (.slice (some ⟨g, i * 7, none⟩) (xs.length + 1 - i) (c - i)) rfl rfl (HCP _ ((Chg.refl [] w).drew) _ _ _) ?_
   go_simp
   have K1 := setRow_heap w.drew g _ (evTy.flat F1).toArray _ _ (((Chg.refl [] w).drew).at_ FG.out (by simp))
   have C1 : Chg [g] w (w.drew.setRow g (evTy.flat F1).toArray) := ((Chg.refl [] w).drew.mono (by simp)).trans ⟨rfl, rfl, rfl, by simp, fun j hj hn => setRow_other w.drew g j _ (by simpa using hn)⟩
   generalize w.drew.setRow g (evTy.flat F1).toArray = w2 at *
   refine hK.out _ _ trivial (fun hHeld => ?_)
   clear hK K; try simp only [Act.put, sA, s0, s1]
   refine wpAnyH_done (by kernel_rfl) ?_ _; clear hHeld HCP
   have V2 : RdK evTy w2 (some ⟨vb, 0, none⟩) 1 [y] := XR.out.chg C1 (fun a ha => by cases ha; simpa using fun e => GV.out e.symm)
   have HC3 := HC2 w2 K1 V2
   have K2 := h_ (setRow_heap w2 g _ (evTy.flat F2).toArray _ _ K1)
   have C2 : Hid (Chg [g] w (w2.setRow g (evTy.flat F2).toArray)) := h_ (C1.trans ⟨rfl, rfl, rfl, by simp, fun j hj hn => setRow_other w2 g j _ (by simpa using hn)⟩)
   have C1H := h_ C1
   clear HC2 K1 V2 C1
   go_wp2_with (first | (at_builtin; refine wpList_copyR _ rfl (.tmp 80) (.tmp 81) 22 22 rfl (.slice (some ⟨g, i * 7, none⟩) (xs.length + 1 - i) (c - i)) (.slice (some ⟨vb, 0, none⟩) 1 1) rfl rfl (HC3 _ _) ?_) | (with_reducible refine wpList_copyR _ rfl (.tmp 80) (.tmp 81) 22 22 rfl (.slice (some ⟨g, i * 7, none⟩) (xs.length + 1 - i) (c - i)) (.slice (some ⟨vb, 0, none⟩) 1 1) rfl rfl (HC3 _ _) ?_))
   go_ret
   refine ⟨some ⟨g, 0, none⟩, c, rfl, OwnK.of K2.out (by rw [LNI.out]; exact b3) FC.out L2.out FIN.out, fun a ha => .inl ha, fun w0 h0 hA => h0.trans' C2.out (fun j hj => by simp at hj; subst hj; exact .inr (hA _ rfl))⟩
  ·
   obtain ⟨i0', hi0, hz0, hz1, hz2⟩ := info_parts evTy.info
   have HRZ0 := run_append_grow_zeros (P := Tryz.prog) w 22 3 0 40 i0' evTy.zv .i64 .i64 evTy.under (by first | rfl | kernel_rfl) hi0 hz0 (some ⟨g, 0, none⟩) i c (evTy.flat (xs.take i)) (run_firstCells_some (P := Tryz.prog) w.drew i0'.size i ⟨g, 0, none⟩ i c (evTy.flat (xs.take i)) (by rw [hz1, evTy.flat_len, List.length_take, Nat.min_eq_left (by omega)]) (fun j v hj => by
    have q := ((h.take i).chg (Chg.refl [] w).drew (by simp)).reads.cells j v hj
    obtain ⟨a, e, q⟩ := q
    cases e
    exact q)) (xs.length + 1 - i) (by omega) (by rw [hz1, k7]; omega) (by omega) (by omega) (by rw [hz2]; have : evTy.bytes ≤ 200 := evTy.bpos; have := Nat.mul_le_mul_left (xs.length + 1 - i) this; omega) (growslice_fits (by omega) (by rw [hz2]; have : evTy.bytes ≤ 200 := evTy.bpos; have := Nat.mul_le_mul_left (i + (xs.length + 1 - i)) this; omega))
   rw [show i + (xs.length + 1 - i) = xs.length + 1 by omega] at HRZ0
   obtain ⟨G, hG⟩ : ∃ G, G = grownCap w (xs.length + 1) c 40 := ⟨_, rfl⟩
   have GE : xs.length + 1 ≤ G := by rw [hG]; exact grownCap_ge w _ _ _
   have GM : G ≤ maxLen := by rw [hG]; exact grownCap_le_maxLen w _ _ _ (by unfold maxLen; omega)
   obtain ⟨R, hR⟩ : ∃ R, R = List.replicate (xs.length + 1 - i) evTy.z ++ List.replicate (G - (xs.length + 1)) evTy.z := ⟨_, rfl⟩
   have LR : xs.length + 1 - i ≤ R.length := by rw [hR]; simp
   have hrow : (evTy.flat (xs.take i)).toArray ++ Builtin.zeroCells evTy.zv.cells (xs.length + 1 - i) ++ Builtin.zeroCells evTy.zv.cells (G - (xs.length + 1)) = (evTy.flat (xs.take i ++ R)).toArray := by
    rw [hR, evTy.zeros, evTy.zeros, evTy.flat_app, evTy.flat_app]
    simp
   rw [← hG, hrow] at HRZ0
   have L0 : (xs.take i ++ R).length = G := by rw [hR]; simp; omega
   have hwr : IntKind.i64.wrap ((((xs.length + 1 : Nat) : Int)) - (i : Int)) = ((xs.length + 1 - i : Nat) : Int) := by rw [IntWalk.i64_in _ (by omega)]; omega
   have hwr2 : IntKind.i64.wrap ((xs.length : Int) + 1 - (i : Int)) = ((xs.length + 1 - i : Nat) : Int) := by rw [IntWalk.i64_in _ (by omega)]; omega
   have HRZ : ∀ ty, (Builtin.append_ #[22, 3] ty #[.slice (some ⟨g, 0, none⟩) i c, .int .i64 ((xs.length + 1 - i : Nat) : Int)]).run Tryz.prog w = .ok (.slice (some ⟨w.heap.size, 0, none⟩) (xs.length + 1) G) (w.drew.alloc (.cells (evTy.flat (xs.take i ++ R)).toArray 40)) := fun ty => HRZ0
   clear HRZ0 hrow hG hR hi0 hz0 hz1 hz2
   obtain ⟨w1, hw1, c1, q1⟩ : ∃ w1, w.drew.alloc (.cells (evTy.flat (xs.take i ++ R)).toArray 40) = w1 ∧ Chg [] w w1 ∧ w1.heap[w.heap.size]? = some (.cells (evTy.flat (xs.take i ++ R)).toArray 40 (0, 0)) := ⟨_, rfl, (Chg.refl [] w).drew.alloc _, heap_alloc_new w.drew _⟩
   simp only [hw1] at HRZ
   obtain ⟨g2, hg2⟩ : ∃ g2, w.heap.size = g2 := ⟨_, rfl⟩
   rw [hg2] at q1
   simp only [hg2] at HRZ
   have G2 : g2 ≠ g := by omega
   have G3 : g2 ≠ vb := by omega
   obtain ⟨F1, hF1⟩ : ∃ F1, F1 = (xs.take i ++ R).take i ++ [y] ++ (xs.take i ++ R).drop (i + [y].length) := ⟨_, rfl⟩
   obtain ⟨F2, hF2⟩ : ∃ F2, F2 = F1.take (i + 1) ++ xs.drop i ++ F1.drop (i + 1 + (xs.drop i).length) := ⟨_, rfl⟩
   have L1 : F1.length = G := by rw [hF1]; simp at L0 ⊢; omega
   have L2 : F2.length = G := by rw [hF2]; simp; omega
   have HC1 : ∀ ty dc, (Builtin.copy_ #[22, 22] ty #[.slice (some ⟨g2, i * 7, none⟩) (xs.length + 1 - i) dc, .slice (some ⟨vb, 0, none⟩) 1 1]).run Tryz.prog w1 = .ok (goInt ([y] : List EvT).length) (w1.setRow g2 (evTy.flat F1).toArray) := fun ty dc => by
    have q := run_copyK (R := evTy) w1 ty (g := g2) (off := i) (dLen := xs.length + 1 - i) (dCap := dc) (sLen := 1) (sCap := 1) (B := some ⟨vb, 0, none⟩) (ys := [y]) (full := xs.take i ++ R) q1 (XR.out.chg c1 (by simp)) (by simp only [Nat.min_def, List.length_singleton]; split <;> omega) (by rw [L0]; simp; omega)
    rw [← hF1] at q
    exact q
   have k1 := setRow_heap w1 g2 _ (evTy.flat F1).toArray _ _ q1
   have C1 : Chg [g2] w1 (w1.setRow g2 (evTy.flat F1).toArray) := ⟨rfl, rfl, rfl, by simp, fun j hj hn => setRow_other w1 g2 j _ (by simpa using hn)⟩
   generalize w1.setRow g2 (evTy.flat F1).toArray = w2 at *
   have HC2 : ∀ W, Chg [] w2 W → ∀ ty dc sc, (Builtin.copy_ #[22, 22] ty #[.slice (some ⟨g2, (i + 1) * 7, none⟩) (xs.length - i) dc, .slice (some ⟨g, i * 7, none⟩) (xs.length - i) sc]).run Tryz.prog W = .ok (goInt (xs.drop i).length) (W.setRow g2 (evTy.flat F2).toArray) := fun W hW ty dc sc => by
    have q := run_copyK (R := evTy) W ty (g := g2) (off := i + 1) (dLen := xs.length - i) (dCap := dc) (sLen := xs.length - i) (sCap := sc) (B := some ⟨g, i * 7, none⟩) (ys := xs.drop i) (full := F1) (hW.at_ k1 (by simp)) (by have := ((DR.out.chg c1 (by simp)).chg C1 (fun a ha => by cases ha; simpa using fun e => G2 e.symm)).chg hW (by simp); rw [List.length_drop]; exact this) (by rw [List.length_drop]; simp only [Nat.min_def]; split <;> omega) (by rw [List.length_drop, L1]; omega)
    rw [← hF2] at q
    exact q
   have FIN : Hid (F2.take (xs.take i ++ y :: xs.drop i).length = xs.take i ++ y :: xs.drop i) := h_ (by rw [hF2, hF1]; exact ins_row2 (by omega) LR)
   have LNI : Hid ((xs.take i ++ y :: xs.drop i).length = xs.length + 1) := h_ (by simp; omega)
   have K1 := h_ k1
   have L2H := h_ L2
   have C12 : Hid (Chg [g2] w w2) := h_ ((c1.mono (by simp)).trans C1)
   have HG2 := h_ hg2
   have GMH := h_ GM
   have b1 : (0 : Int) ≤ (i : Int) + 1 := by omega
   have b2 : (i : Int) + 1 ≤ (xs.length : Int) + 1 := by omega
   have b3 : (i : Int) ≤ (xs.length : Int) + 1 := by omega
   have b4 : (c : Int) < ((xs.length + 1 : Nat) : Int) := by omega
   have b5 : (c : Int) < (xs.length : Int) + 1 := by omega
   have b6 : ¬ c = i := by omega
   have b7 : ¬ G = i := by omega
   have b8 : ¬ G = i + 1 := by omega
   have b9 : i ≤ c := by omega
   have b10 : (i : Int) ≤ (c : Int) := by omega
   clear hF1 hF2 k1 C1 c1 q1 hw1 hg2 GM L0 L1 L2 LR h hi hn hv hne hg hfl hcm hft gv lg lv O G2 G3 hwr
   go_enter Tryz.func163, Tryz.ntmps163
   go_wp2_with (first | (at_builtin; refine wpList_append_run _ rfl (.tmp 34) (.tmp 39) 22 3 rfl _ _ rfl rfl _ _ (HRZ _) ?_) | (at_builtin; refine wpList_copyR _ rfl (.tmp 43) (.tmp 44) 22 22 rfl (.slice (some ⟨g2, i * 7, none⟩) (xs.length + 1 - i) (G - i)) (.slice (some ⟨vb, 0, none⟩) 1 1) rfl rfl (HC1 _ _) ?_))
   clear HRZ HC1
   refine wp_region_held_drew (S := fun w' => True) (by kernel_rfl) trivial (fun hHeld => ?_)
   have hHeld := trivial
   refine sy 0 46 rfl rfl ?_ (hS := trivial)
   try simp only [Act.put, sA, s0, s1]
   refine sy 1 47 rfl rfl ?_ (hS := trivial)
   try simp only [Act.put, sA, s0, s1]
   refine sy 2 48 rfl rfl ?_ (hS := trivial)
   try simp only [Act.put, sA, s0, s1]
   refine sy 3 49 rfl rfl ?_ (hS := trivial)
   try simp only [Act.put, sA, s0, s1]
   refine sy 4 50 rfl rfl ?_ (hS := trivial)
   try simp only [Act.put, sA, s0, s1]
   refine sy 5 51 rfl rfl ?_ (hS := trivial)
   try simp only [Act.put, sA, s0, s1]
   refine sy 6 52 rfl rfl ?_ (hS := trivial)
   try simp only [Act.put, sA, s0, s1]
   refine sy 7 53 rfl rfl ?_ (hS := trivial)
   try simp only [Act.put, sA, s0, s1]
   refine on1 8 rfl (fun K hK => ?_)
   refine step_copyR rfl (.tmp 50) (.tmp 53) 22 22 rfl (.slice (some ⟨g2, (i + 1) * 7, none⟩) (xs.length - i) (G - (i + 1))) (.slice (some ⟨g, i * 7, none⟩) (xs.length - i) (c - i)) rfl rfl (HC2 _ ((Chg.refl [] w2).drew) _ _ _) ?_
   go_simp
   have K2 := setRow_heap w2.drew g2 _ (evTy.flat F2).toArray _ _ (((Chg.refl [] w2).drew).at_ K1.out (by simp))
   have C2 : Chg [g2] w (w2.drew.setRow g2 (evTy.flat F2).toArray) := (C12.out.trans ((Chg.refl [] w2).drew.mono (by simp))).trans ⟨rfl, rfl, rfl, by simp, fun j hj hn => setRow_other w2.drew g2 j _ (by simpa using hn)⟩
   generalize w2.drew.setRow g2 (evTy.flat F2).toArray = w3 at *
   refine hK.out _ _ trivial (fun hHeld => ?_)
   clear hK K; try simp only [Act.put, sA, s0, s1]
   refine wpAnyH_done (by kernel_rfl) ?_ _; clear hHeld HC2
   have K3 := h_ K2
   have C3 := h_ C2
   have GEH := h_ GE
   clear K2 C2 C12 K1; go_wp2; go_ret
   refine ⟨some ⟨g2, 0, none⟩, G, rfl, OwnK.of K3.out (by rw [LNI.out]; exact GEH.out) GMH.out L2H.out FIN.out, fun a ha => .inr (by cases ha; rw [HG2.out]; exact Nat.le_refl _), fun w0 h0 hA => h0.trans' C3.out (fun j hj => by simp at hj; subst hj; exact .inr (by rw [← HG2.out]; exact h0.size))⟩
end
section
open Go.RowKit Go.Lib

set_option maxRecDepth 100000 in
theorem evgrow_any (w : World) (n : Nat) (hn : n ≤ 100000) :
  Calls Tryz.prog 197 #[.slice none 0 0, .int .i64 (n : Int)] w fun r w' => ∃ (A' : Option Addr) (c' : Nat), r = .returned (.slice A' 0 c') ∧ OwnK evTy w' A' c' [] ∧ (∀ a, A' = some a → w.heap.size ≤ a.block) ∧ Chg [] w w' := by
 have n0 : ¬ ((n : Int) < 0) := by omega
 have n1 : IntKind.i64.wrap ((n : Int)) = (n : Int) := IntWalk.i64_in _ (by omega)
 have n2 : IntKind.i64.wrap ((n : Int) - 0) = (n : Int) := by rw [IntWalk.i64_in _ (by omega)]; omega
 by_cases h0 : n = 0
 ·
  subst h0
  go_enter Tryz.func197, Tryz.ntmps197
  go_wp2; go_ret
  exact ⟨none, 0, rfl, OwnK.none_ _, by simp, Chg.refl _ _⟩
 ·
  have hpos : 0 < n := by omega
  have n3 : (0 : Int) < (n : Int) := by omega
  obtain ⟨i0', hi0, hz0, hz1, hz2⟩ := info_parts evTy.info
  have k7 : evTy.k = 7 := rfl
  have HRZ0 := run_append_grow_zeros (P := Tryz.prog) w 22 3 0 40 i0' evTy.zv .i64 .i64 evTy.under (by first | rfl | kernel_rfl) hi0 hz0 none 0 0 [] (by simp [Builtin.firstCells]) n hpos (by rw [hz1, k7]; omega) (by omega) (by omega) (by rw [hz2]; have : evTy.bytes ≤ 200 := evTy.bpos; have := Nat.mul_le_mul_left n this; omega) (growslice_fits (by omega) (by rw [hz2]; have : evTy.bytes ≤ 200 := evTy.bpos; have := Nat.mul_le_mul_left (0 + n) this; omega))
  rw [Nat.zero_add] at HRZ0
  obtain ⟨G, hG⟩ : ∃ G, G = grownCap w n 0 40 := ⟨_, rfl⟩
  have GE : n ≤ G := by rw [hG]; exact grownCap_ge w _ _ _
  have GM : G ≤ maxLen := by rw [hG]; exact grownCap_le_maxLen w _ _ _ (by unfold maxLen; omega)
  have hrow : (([] : List Value).toArray ++ Builtin.zeroCells evTy.zv.cells n ++ Builtin.zeroCells evTy.zv.cells (G - n)) = (evTy.flat (List.replicate n evTy.z ++ List.replicate (G - n) evTy.z)).toArray := by
   rw [evTy.zeros, evTy.zeros, evTy.flat_app]
   simp
  rw [← hG, hrow] at HRZ0
  obtain ⟨w1, hw1, c1, q1⟩ : ∃ w1, w.drew.alloc (.cells (evTy.flat (List.replicate n evTy.z ++ List.replicate (G - n) evTy.z)).toArray 40) = w1 ∧ Chg [] w w1 ∧ w1.heap[w.heap.size]? = some (.cells (evTy.flat (List.replicate n evTy.z ++ List.replicate (G - n) evTy.z)).toArray 40 (0, 0)) := ⟨_, rfl, (Chg.refl [] w).drew.alloc _, heap_alloc_new w.drew _⟩
  rw [hw1] at HRZ0
  have HRZ : ∀ ty, (Builtin.append_ #[22, 3] ty #[.slice none 0 0, .int .i64 (n : Int)]).run Tryz.prog w = .ok (.slice (some ⟨w.heap.size, 0, none⟩) n G) w1 := fun ty => HRZ0
  have OWN : Hid (OwnK evTy w1 (some ⟨w.heap.size, 0, none⟩) G []) := h_ (OwnK.of (full := List.replicate n evTy.z ++ List.replicate (G - n) evTy.z) q1 (Nat.zero_le _) GM (by simp; omega) (by simp))
  have C1 := h_ c1
  have g1 : (0 : Int) ≤ (G : Int) := by omega
  have g2 : ¬ G = 0 := by omega
  clear HRZ0 hrow hG hi0 hz0 hz1 hz2 hw1 c1 q1
  go_enter Tryz.func197, Tryz.ntmps197
  go_wp2_with (at_builtin; refine wpList_append_run _ rfl (.tmp 20) (.tmp 21) 22 3 rfl _ _ rfl rfl _ _ (HRZ _) ?_)
  go_ret
  exact ⟨_, G, rfl, OWN.out, fun a ha => by cases ha; exact Nat.le_refl _, C1.out⟩
abbrev PartE := Option Addr × Nat × List EvT
def partV (p : PartE) : Value := .slice p.1 p.2.2.length p.2.1
def sizeParts (ps : List PartE) : Nat := (ps.map (fun p => p.2.2.length)).sum
theorem sizeP_snoc {ps : List PartE} {k : Nat} {p : PartE} (h : ps[k]? = some p) : sizeParts (ps.take (k + 1)) = sizeParts (ps.take k) + p.2.2.length := by
 unfold sizeParts
 rw [List.take_add_one, h]
 simp
theorem sizeP_le (ps : List PartE) (k : Nat) : sizeParts (ps.take k) ≤ sizeParts ps := by
 have h : sizeParts ps = sizeParts (ps.take k) + sizeParts (ps.drop k) := by
  unfold sizeParts
  rw [← List.sum_append, ← List.map_append, List.take_append_drop]
 omega
def flatParts (ps : List PartE) : List EvT := ps.flatMap (fun p => p.2.2)
theorem flatP_snoc {ps : List PartE} {k : Nat} {p : PartE} (h : ps[k]? = some p) : flatParts (ps.take (k + 1)) = flatParts (ps.take k) ++ p.2.2 := by
 unfold flatParts
 rw [List.take_add_one, h]
 simp
theorem flatP_len (ps : List PartE) : (flatParts ps).length = sizeParts ps := by
 unfold flatParts sizeParts
 rw [List.length_flatMap]
set_option maxRecDepth 100000 in
theorem evconcat_any (w : World) (g c : Nat) (ps : List PartE) (hg : w.heap[g]? = some (.cells (ps.map partV).toArray 22 (0, 0))) (hr : ∀ p ∈ ps, RdK evTy w p.1 p.2.2.length p.2.2) (hn : sizeParts ps ≤ 100000) (hm : ps.length ≤ 1000) :
  Calls Tryz.prog 164 #[.slice (some ⟨g, 0, none⟩) ps.length c] w fun r w' => ∃ (A' : Option Addr) (c' : Nat), r = .returned (.slice A' (sizeParts ps) c') ∧ OwnK evTy w' A' c' (flatParts ps) ∧ (∀ a, A' = some a → w.heap.size ≤ a.block) ∧ Chg [] w w' := by
 have HG : Hid (∀ w', Chg [] w w' → ∀ k p, ps[k]? = some p → w'.cell? ⟨g, k, none⟩ = some (.slice p.1 p.2.2.length p.2.1)) := h_ (fun w' hc k p hp => by
  rw [cell_of (hc.at_ hg (by simp)) k]
  simp [hp, partV])
 have HR := h_ hr
 have HN := h_ hn
 have HM := h_ hm
 have SZ : Hid (∀ k, sizeParts (ps.take k) ≤ 100000) := h_ (fun k => Nat.le_trans (sizeP_le ps k) hn)
 clear hg hr hn hm
 go_enter Tryz.func164, Tryz.ntmps164
 go_wp2
 go_loopw [3, 11] (fun v3 v11 wr => ∃ (k s : Nat), k ≤ ps.length ∧ v11 = .int .i64 (k : Int) ∧ v3 = .int .i64 (s : Int) ∧ Hid (s = sizeParts (ps.take k)) ∧ Hid (Chg [] w wr)) (fun _ v11 _ => ps.length - (RowKit.intOf v11).toNat)
 case atStart => exact ⟨0, 0, Nat.zero_le _, rfl, rfl, h_ rfl, Chg.refl _ _⟩
 case round =>
  obtain ⟨k, s, hk, rfl, rfl, HS, PC⟩ := hrel
  have j0 : (0 : Int) ≤ (k : Int) := by omega
  by_cases hlt : k < ps.length
  ·
   have j1 : (k : Int) < (ps.length : Int) := by omega
   have j3 : IntKind.i64.wrap ((k : Int) + 1) = (k : Int) + 1 := IntWalk.i64_in _ (by have := HM.out; omega)
   obtain ⟨p, hp⟩ : ∃ p, ps[k]? = some p := ⟨_, List.getElem?_eq_getElem hlt⟩
   have HS1 : Hid (s + p.2.2.length = sizeParts (ps.take (k + 1))) := h_ (by rw [sizeP_snoc hp, HS.out])
   have hb : s + p.2.2.length ≤ 100000 := by rw [HS1.out]; exact SZ.out _
   have j4 : IntKind.i64.wrap ((s : Int) + (p.2.2.length : Int)) = ((s + p.2.2.length : Nat) : Int) := by rw [IntWalk.i64_in _ (by omega)]; omega
   have j5 : ¬ (((s + p.2.2.length : Nat) : Int) < 0) := by omega
   have j6 : ¬ ((s : Int) + (p.2.2.length : Int) < 0) := by omega
   have z := HG.out _ PC.out k p hp
   clear hp HS hb; go_wp2; go_round
   case rel => exact ⟨k + 1, s + p.2.2.length, by omega, by go_num, by go_num, HS1, PC⟩
   case measure => simp [RowKit.intOf]; omega
  ·
   obtain rfl : k = ps.length := by omega
   have j1 : ¬ (ps.length : Int) < (ps.length : Int) := by omega
   have HS1 : Hid (s = sizeParts ps) := h_ (by rw [HS.out, List.take_length])
   generalize wr = wa at *
   have GR := h_ (evgrow_any wa s (by rw [HS1.out]; exact HN.out))
   clear HS; go_wp2_with fail
   refine GR.out.mono ?_
   rintro r w1 ⟨A1, c1, rfl, ho, hA, hc⟩
   have O1 := h_ ho
   have NA : Hid (∀ a, A1 = some a → w.heap.size ≤ a.block) := h_ (fun a ha => Nat.le_trans PC.out.size (hA a ha))
   have C1 := h_ (PC.out.trans hc)
   clear ho hA hc GR; go_wp2
   go_loopw [6, 27] (fun v6 v27 wq => ∃ (k n : Nat) (A2 : Option Addr) (c2 : Nat), k ≤ ps.length ∧ v27 = .int .i64 (k : Int) ∧ v6 = .slice A2 n c2 ∧ Hid ((flatParts (ps.take k)).length = n) ∧ Hid (OwnK evTy wq A2 c2 (flatParts (ps.take k))) ∧ Hid (∀ a, A2 = some a → w.heap.size ≤ a.block) ∧ Hid (Chg [] w wq)) (fun _ v27 _ => ps.length - (RowKit.intOf v27).toNat)
   case atStart => exact ⟨0, 0, A1, c1, Nat.zero_le _, rfl, rfl, h_ rfl, O1, NA, C1⟩
   case round =>
    obtain ⟨k, n, A2, c2, hk, rfl, rfl, HL, O2, NA2, C2⟩ := hrel
    have j0 : (0 : Int) ≤ (k : Int) := by omega
    by_cases hlt : k < ps.length
    ·
     have j1 : (k : Int) < (ps.length : Int) := by omega
     have j3 : IntKind.i64.wrap ((k : Int) + 1) = (k : Int) + 1 := IntWalk.i64_in _ (by have := HM.out; omega)
     obtain ⟨p, hp⟩ : ∃ p, ps[k]? = some p := ⟨_, List.getElem?_eq_getElem hlt⟩
     have z := HG.out _ C2.out k p hp
     have RP := h_ ((HR.out p (List.mem_of_getElem? hp)).chg C2.out (by simp))
     have LN : Hid ((n + p.2.2.length) * 400 ≤ 140737488355327) := h_ (by
      have a := SZ.out (k + 1)
      rw [sizeP_snoc hp, ← flatP_len, HL.out] at a
      omega)
     have HL1 : Hid ((flatParts (ps.take (k + 1))).length = n + p.2.2.length) := h_ (by rw [flatP_snoc hp, List.length_append, HL.out])
     have FS := h_ (flatP_snoc hp)
     clear hp
     go_wp2_with (at_builtin; refine wpList_appK (R := evTy) rfl (.tmp 31) (.tmp 32) rfl rfl O2.out HL.out rfl RP.out LN.out ?_; intro A3 c3 w3 o3 g3 e3)
     have O3 : Hid (OwnK evTy w3 A3 c3 (flatParts (ps.take (k + 1)))) := h_ (by rw [FS.out]; exact o3)
     have C3 := h_ (C2.out.grown g3 (fun i hi => by
      rcases A2 with _ | a
      ·
       simp at hi
      ·
       simp at hi; subst hi; exact .inr (NA2.out _ rfl)))
     have NA3 : Hid (∀ a, A3 = some a → w.heap.size ≤ a.block) := h_ (fun a ha => by
      rcases e3 with e | e
      ·
       exact NA2.out a (by rw [← e]; exact ha)
      ·
       rw [e] at ha; cases ha; exact C2.out.size)
     clear o3 g3 e3; go_wp2; go_round
     case rel => exact ⟨k + 1, n + p.2.2.length, A3, c3, by omega, by go_num, by first | rfl | go_num, HL1, O3, NA3, C3⟩
     case measure => simp [RowKit.intOf]; omega
    ·
     obtain rfl : k = ps.length := by omega
     have j1 : ¬ (ps.length : Int) < (ps.length : Int) := by omega
     have e1 : ps.take ps.length = ps := List.take_length
     rw [e1] at HL O2
     have HF : Hid (n = sizeParts ps) := h_ (by rw [← HL.out, flatP_len])
     clear e1
     rw [HF.out]
     go_wp2; go_ret
     exact ⟨A2, c2, rfl, O2.out, NA2.out, C2.out⟩
end
end Go.Proofs.YtehmchdhlhchjaaGreatDoor
