/- The kit's CopyEvents. A row of structs: one cell of one of them is stored. No program here. Lists of events in memory of their own. slices.Insert of one event. -/
import Derived.Test.YtdfapiffalmjcaaGreatDoorZsad
import Derived.Test.YtdfapiffalmjcaaGreatDoorZsae
import Derived.Test.YtdfapiffalmjcaaGreatDoorZsai
import Derived.Deep.Cut
import Derived.Test.YtdfapiffalmjcaaGreatDoorZsaa
import Derived.BigQuiet
namespace Go.Proofs.YtdfapiffalmjcaaGreatDoor
section
open Go.RowKit Go.Lib
set_option linter.unusedSimpArgs false
set_option linter.unusedVariables false


theorem fresh_appE {w2 w w' : World} {A A' : Option Addr} (hA : ∀ a, A = some a → w2.heap.size ≤ a.block) (hC : Chg [] w2 w) (g : w.grownBy w' (A.map (·.block))) (e : A' = A ∨ A' = some ⟨w.heap.size, 0, none⟩) :
    (∀ a, A' = some a → w2.heap.size ≤ a.block) ∧ Chg [] w2 w' := by
  refine ⟨?_, hC.grown g ?_⟩
  · rintro a ha
    rcases e with rfl | rfl
    · exact hA a ha
    · cases ha; exact hC.size
  · rintro i hi
    cases A with
    | none => simp at hi
    | some a => simp at hi; subst hi; exact .inr (hA a rfl)
theorem rd_oneEc {w : World} {g : Nat} {X : EvT} (h : w.heap[g]? = some (.cells #[.int .i64 X.n, .int .i64 X.s, .string X.p, .int .i64 X.k, .int .i64 X.m, .slice X.A X.l X.c, .slice X.B X.bl X.bc] 30)) : RdK evTy w (some ⟨g, 0, none⟩) 1 [X] :=
  ⟨rfl, fun j v hj => ⟨_, rfl, by rw [add_zero_lit, cell_of h j]; simpa [RowTy.flat, evTy] using hj⟩⟩
/-- The rows of a copy lie apart from the list's own block, and are there. -/
def ApartE (w : World) (A : Option Addr) (xs : List EvT) : Prop := ∀ x ∈ xs, (∀ a, x.A = some a → a.block < w.heap.size ∧ ∀ b, A = some b → a.block ≠ b.block) ∧ (∀ a, x.B = some a → a.block < w.heap.size ∧ ∀ b, A = some b → a.block ≠ b.block) ∧ x.bl ≤ x.bc ∧ x.bc ≤ maxLen
theorem EvsR.snoc {w : World} {xs : List EvT} {es : List EvP} {x : EvT} {e : EvP} (h : EvsR w xs es) (r : EvR w x e) : EvsR w (xs ++ [x]) (es ++ [e]) := by
  refine ⟨by simp [h.1], fun i y f hy hf => ?_⟩
  by_cases q : i < xs.length
  · rw [List.getElem?_append_left q] at hy
    rw [List.getElem?_append_left (by rw [← h.1]; exact q)] at hf
    exact h.2 i y f hy hf
  · rw [List.getElem?_append_right (by omega)] at hy
    rw [List.getElem?_append_right (by rw [← h.1]; omega), ← h.1] at hf
    have hi := (List.getElem?_eq_some_iff.1 hy).1
    simp at hi
    rw [hi] at hy hf
    simp at hy hf
    subst hy hf
    exact r
theorem EvR.chgS {S : List Nat} {w w' : World} {x : EvT} {e : EvP} (h : EvR w x e) (hc : Chg S w w') (hA : ∀ a, x.A = some a → a.block ∉ S) (hB : ∀ a, x.B = some a → a.block ∉ S) : EvR w' x e := ⟨h.n, h.s, h.p, h.k, h.m, h.l, h.bl, h.A.chg hc hA, h.B.chg hc hB⟩
theorem EvsR.chgS {S : List Nat} {w w' : World} {xs : List EvT} {es : List EvP} (h : EvsR w xs es) (hc : Chg S w w') (hS : ∀ x ∈ xs, (∀ a, x.A = some a → a.block ∉ S) ∧ (∀ a, x.B = some a → a.block ∉ S)) : EvsR w' xs es :=
  ⟨h.1, fun i x e hx he => (h.2 i x e hx he).chgS hc (hS x (List.mem_of_getElem? hx)).1 (hS x (List.mem_of_getElem? hx)).2⟩
end
section
set_option linter.unusedSimpArgs false
set_option linter.unusedVariables false
variable {α : Type} {R : RowTy α}
theorem flat_set (full : List α) (j i : Nat) (x x' : α) (v : Value) (hx : full[j]? = some x) (hi : i < R.k) (he : ∀ q, q < R.k → (R.enc x')[q]? = if q = i then some v else (R.enc x)[q]?) :
    (R.flat full).set (j * R.k + i) v = R.flat (full.set j x') := by
  have hj := (List.getElem?_eq_some_iff.1 hx).1
  have hb : j * R.k + i < full.length * R.k := by
    have : (j + 1) * R.k ≤ full.length * R.k := Nat.mul_le_mul_right _ hj
    rw [Nat.add_mul, Nat.one_mul] at this
    omega
  refine R.flat_ext _ _ (by rw [List.length_set, R.flat_len, List.length_set]) (fun q p y hy hp => ?_)
  rw [List.getElem?_set] at hy
  rw [List.getElem?_set, R.flat_len]
  by_cases e : j = q
  · subst e
    rw [if_pos rfl, if_pos hj] at hy
    cases hy
    rw [he p hp]
    by_cases e2 : p = i
    · subst e2
      rw [if_pos rfl, if_pos hb, if_pos rfl]
    · rw [if_neg (by omega), if_neg e2, R.flat_at full j p x hx hp]
  · rw [if_neg e] at hy
    rw [if_neg, R.flat_at full q p y hy hp]
    intro e3
    rcases Nat.lt_or_gt_of_ne e with h | h
    · have : (j + 1) * R.k ≤ q * R.k := Nat.mul_le_mul_right _ h
      rw [Nat.add_mul, Nat.one_mul] at this
      omega
    · have : (q + 1) * R.k ≤ j * R.k := Nat.mul_le_mul_right _ h
      rw [Nat.add_mul, Nat.one_mul] at this
      omega
theorem OwnK.setc {w : World} {g c : Nat} {xs : List α} (h : OwnK R w (some ⟨g, 0, none⟩) c xs) (j i : Nat) (x x' : α) (v : Value) (hx : xs[j]? = some x) (hi : i < R.k) (he : ∀ q, q < R.k → (R.enc x')[q]? = if q = i then some v else (R.enc x)[q]?) :
    OwnK R (w.setCell ⟨g, j * R.k + i, none⟩ v) (some ⟨g, 0, none⟩) c (xs.set j x') := by
  have hj := (List.getElem?_eq_some_iff.1 hx).1
  rcases h with ⟨h, _⟩ | ⟨g', full, e, hg, h1, h2, h3, h4⟩
  · cases h
  · cases e
    have hx' : full[j]? = some x := by
      rw [← h4, List.getElem?_take, if_pos hj] at hx
      exact hx
    refine OwnK.of (full := full.set j x') ?_ (by simpa using h3) h2 (by simpa using h1) ?_
    · have := heap_setCell_same w g (j * R.k + i) _ _ v hg
      rw [this, List.setIfInBounds_toArray, flat_set full j i x x' v hx' hi he]
    · rw [List.length_set, List.take_set, h4]
end
section
open Go.RowKit Go.Lib
set_option linter.unusedSimpArgs false
set_option linter.unusedVariables false

/-- A new row of zeros. -/
theorem RowTy.run_mk {α : Type} (R : RowTy α) (n : Nat) (h : n ≤ 1000000) (w : World) : (Instr.makeSlice R.TS (.int .i64 (n : Int)) (.int .i64 (n : Int))).run Tryz.prog w = .ok (.slice (some ⟨w.heap.size, 0, none⟩) n n) (w.alloc (.cells (R.flat (List.replicate n R.z)).toArray R.T)) := by
  have hinf := R.info
  obtain ⟨i0, hi, hm⟩ := Option.map_eq_some_iff.1 hinf
  have hz : i0.zero = some R.zv := congrArg Prod.fst hm
  have hs : i0.size = R.k := congrArg (fun p => p.2.1) hm
  have hb : i0.bytes = R.bytes := congrArg (fun p => p.2.2) hm
  have hr := run_make (P := Tryz.prog) w R.TS R.T i0 R.zv R.under hi hz .i64 .i64 n n (by omega) (by omega) (by rw [hb]; have := R.bpos; have : (R.bytes : Int) * (n : Int) ≤ 200 * (n : Int) := Int.mul_le_mul_of_nonneg_right (by omega) (by omega); omega) (by omega)
  rw [hr, hs, Int.toNat_natCast]
  have hk : R.zv.cells.size = R.k := by rw [← Array.length_toList, R.zc, R.klen]
  have e : madeCells R.zv.cells (n * R.k) = (R.flat (List.replicate n R.z)).toArray := by
    rw [← R.zeros]
    unfold madeCells Builtin.zeroCells
    simp [hk]
  rw [e]
theorem setE_k {xs : List EvT} {j : Nat} {y : EvT} (x : EvT) (h : xs[j]? = some y) : (xs.set j x)[j]? = some x := by
  rw [List.getElem?_set]
  simp [(List.getElem?_eq_some_iff.1 h).1]
/-- An event is stored into its place of a row. -/
theorem OwnK.set7 {w : World} {g c : Nat} {xs : List EvT} (h : OwnK evTy w (some ⟨g, 0, none⟩) c xs) (j : Nat) (y x : EvT) (hx : xs[j]? = some y) :
    OwnK evTy (((((((w.setCell ⟨g, j * 7, none⟩ (.int .i64 x.n)).setCell ⟨g, j * 7 + 1, none⟩ (.int .i64 x.s)).setCell ⟨g, j * 7 + 2, none⟩ (.string x.p)).setCell ⟨g, j * 7 + 3, none⟩ (.int .i64 x.k)).setCell ⟨g, j * 7 + 4, none⟩ (.int .i64 x.m)).setCell ⟨g, j * 7 + 5, none⟩ (.slice x.A x.l x.c)).setCell ⟨g, j * 7 + 6, none⟩ (.slice x.B x.bl x.bc)) (some ⟨g, 0, none⟩) c (xs.set j x) := by
  have a0 := h.setc j 0 y ⟨x.n, y.s, y.p, y.k, y.m, y.A, y.l, y.c, y.B, y.bl, y.bc⟩ (.int .i64 x.n) hx (by decide) (fun q hq => by rcases q with _ | _ | _ | _ | _ | _ | _ | q <;> rfl)
  have a1 := a0.setc j 1 _ ⟨x.n, x.s, y.p, y.k, y.m, y.A, y.l, y.c, y.B, y.bl, y.bc⟩ (.int .i64 x.s) (setE_k _ hx) (by decide) (fun q hq => by rcases q with _ | _ | _ | _ | _ | _ | _ | q <;> rfl)
  rw [List.set_set] at a1
  have a2 := a1.setc j 2 _ ⟨x.n, x.s, x.p, y.k, y.m, y.A, y.l, y.c, y.B, y.bl, y.bc⟩ (.string x.p) (setE_k _ hx) (by decide) (fun q hq => by rcases q with _ | _ | _ | _ | _ | _ | _ | q <;> rfl)
  rw [List.set_set] at a2
  have a3 := a2.setc j 3 _ ⟨x.n, x.s, x.p, x.k, y.m, y.A, y.l, y.c, y.B, y.bl, y.bc⟩ (.int .i64 x.k) (setE_k _ hx) (by decide) (fun q hq => by rcases q with _ | _ | _ | _ | _ | _ | _ | q <;> rfl)
  rw [List.set_set] at a3
  have a4 := a3.setc j 4 _ ⟨x.n, x.s, x.p, x.k, x.m, y.A, y.l, y.c, y.B, y.bl, y.bc⟩ (.int .i64 x.m) (setE_k _ hx) (by decide) (fun q hq => by rcases q with _ | _ | _ | _ | _ | _ | _ | q <;> rfl)
  rw [List.set_set] at a4
  have a5 := a4.setc j 5 _ ⟨x.n, x.s, x.p, x.k, x.m, x.A, x.l, x.c, y.B, y.bl, y.bc⟩ (.slice x.A x.l x.c) (setE_k _ hx) (by decide) (fun q hq => by rcases q with _ | _ | _ | _ | _ | _ | _ | q <;> rfl)
  rw [List.set_set] at a5
  have a6 := a5.setc j 6 _ x (.slice x.B x.bl x.bc) (setE_k _ hx) (by decide) (fun q hq => by rcases q with _ | _ | _ | _ | _ | _ | _ | q <;> rfl)
  rw [List.set_set] at a6
  exact a6
theorem Chg.set7 {S : List Nat} {w0 w : World} {g : Nat} (h : Chg S w0 w) (hg : g ∈ S ∨ w0.heap.size ≤ g) (o : Nat) (v0 v1 v2 v3 v4 v5 v6 : Value) :
    Chg S w0 (((((((w.setCell ⟨g, o, none⟩ v0).setCell ⟨g, o + 1, none⟩ v1).setCell ⟨g, o + 2, none⟩ v2).setCell ⟨g, o + 3, none⟩ v3).setCell ⟨g, o + 4, none⟩ v4).setCell ⟨g, o + 5, none⟩ v5).setCell ⟨g, o + 6, none⟩ v6) :=
  ((((((h.setCell (p := ⟨g, o, none⟩) hg v0).setCell (p := ⟨g, o + 1, none⟩) hg v1).setCell (p := ⟨g, o + 2, none⟩) hg v2).setCell (p := ⟨g, o + 3, none⟩) hg v3).setCell (p := ⟨g, o + 4, none⟩) hg v4).setCell (p := ⟨g, o + 5, none⟩) hg v5).setCell (p := ⟨g, o + 6, none⟩) hg v6
/-- Events whose bytes and pasts are memory of their own, between lo and hi, beside the row G. -/
structure OwnEs (w : World) (lo hi : Nat) (G : Option Addr) (ys : List EvT) (es : List EvP) : Prop where
  ev : EvsR w ys es
  own : ∀ (i : Nat) (y : EvT) (e : EvP), ys[i]? = some y → es[i]? = some e → OwnB w y.A y.c e.b ∧ OwnK spanTy w y.B y.bc e.q
  at_ : ∀ y ∈ ys, ∀ a, (y.A = some a ∨ y.B = some a) → lo ≤ a.block ∧ a.block < hi ∧ ∀ b, G = some b → a.block ≠ b.block
  two : ∀ y ∈ ys, ∀ a b, y.A = some a → y.B = some b → a.block ≠ b.block
  apart : ys.Pairwise (fun y z => ∀ a b, (y.A = some a ∨ y.B = some a) → (z.A = some b ∨ z.B = some b) → a.block ≠ b.block)
theorem OwnEs.nil (w : World) (lo hi : Nat) (G : Option Addr) : OwnEs w lo hi G [] [] := ⟨EvsR.nil _, fun i y e h => by simp at h, fun y h => by simp at h, fun y h => by simp at h, List.Pairwise.nil⟩
theorem OwnEs.chg {S : List Nat} {w w' : World} {lo hi : Nat} {G : Option Addr} {ys : List EvT} {es : List EvP} (h : OwnEs w lo hi G ys es) (hc : Chg S w w') (hS : ∀ i ∈ S, (lo ≤ i ∧ i < hi) → ∃ b, G = some b ∧ b.block = i) : OwnEs w' lo hi G ys es := by
  have no : ∀ y ∈ ys, ∀ a, (y.A = some a ∨ y.B = some a) → a.block ∉ S := fun y hy a ha q => by
    obtain ⟨l, u, d⟩ := h.at_ y hy a ha
    obtain ⟨b, hb, e⟩ := hS _ q ⟨l, u⟩
    exact d b hb e.symm
  refine ⟨h.ev.chgS hc (fun x hx => ⟨fun a ha => no x hx a (.inl ha), fun a ha => no x hx a (.inr ha)⟩), fun i y e hy he => ?_, h.at_, h.two, h.apart⟩
  obtain ⟨a, b⟩ := h.own i y e hy he
  exact ⟨a.chg hc (fun a ha => no y (List.mem_of_getElem? hy) a (.inl ha)), b.chg hc (fun a ha => no y (List.mem_of_getElem? hy) a (.inr ha))⟩
theorem OwnEs.mono {w : World} {lo hi hi' : Nat} {G : Option Addr} {ys : List EvT} {es : List EvP} (h : OwnEs w lo hi G ys es) (hh : hi ≤ hi') : OwnEs w lo hi' G ys es :=
  ⟨h.ev, h.own, fun y hy a ha => ⟨(h.at_ y hy a ha).1, by have := (h.at_ y hy a ha).2.1; omega, (h.at_ y hy a ha).2.2⟩, h.two, h.apart⟩
theorem OwnEs.low {w : World} {lo lo' hi : Nat} {G : Option Addr} {ys : List EvT} {es : List EvP} (h : OwnEs w lo hi G ys es) (hh : lo' ≤ lo) : OwnEs w lo' hi G ys es :=
  ⟨h.ev, h.own, fun y hy a ha => ⟨by have := (h.at_ y hy a ha).1; omega, (h.at_ y hy a ha).2⟩, h.two, h.apart⟩
theorem OwnEs.snoc {w : World} {lo hi hi' : Nat} {G : Option Addr} {ys : List EvT} {es : List EvP} {x : EvT} {e : EvP} (h : OwnEs w lo hi G ys es) (hh : lo ≤ hi ∧ hi ≤ hi') (r : EvR w x e) (hA : OwnB w x.A x.c e.b) (hB : OwnK spanTy w x.B x.bc e.q) (ha : ∀ a, (x.A = some a ∨ x.B = some a) → hi ≤ a.block ∧ a.block < hi' ∧ ∀ b, G = some b → a.block ≠ b.block) (h2 : ∀ a b, x.A = some a → x.B = some b → a.block ≠ b.block) : OwnEs w lo hi' G (ys ++ [x]) (es ++ [e]) := by
  refine ⟨h.ev.snoc r, fun i y f hy hf => ?_, fun y hy a q => ?_, fun y hy => ?_, ?_⟩
  · by_cases q : i < ys.length
    · rw [List.getElem?_append_left q] at hy
      rw [List.getElem?_append_left (by rw [← h.ev.1]; exact q)] at hf
      exact h.own i y f hy hf
    · rw [List.getElem?_append_right (by omega)] at hy
      rw [List.getElem?_append_right (by rw [← h.ev.1]; omega), ← h.ev.1] at hf
      have hi := (List.getElem?_eq_some_iff.1 hy).1
      simp at hi
      have e0 : i - ys.length = 0 := by omega
      rw [e0] at hy hf
      cases hy
      cases hf
      exact ⟨hA, hB⟩
  · rcases List.mem_append.1 hy with r | r
    · have := h.at_ y r a q
      exact ⟨this.1, by omega, this.2.2⟩
    · simp at r; subst r
      have := ha a q
      exact ⟨by omega, this.2⟩
  · rcases List.mem_append.1 hy with r | r
    · exact h.two y r
    · simp at r; subst r; exact h2
  · rw [List.pairwise_append]
    refine ⟨h.apart, List.pairwise_singleton _ _, fun y hy z hz a b p q => ?_⟩
    simp at hz
    subst hz
    have := (h.at_ y hy a p).2.1
    have := (ha b q).1
    omega
/-- A list of events that lies, all of it, in memory of its own, between lo and hi. -/
structure EsF (w : World) (lo hi : Nat) (A : Option Addr) (c : Nat) (ys : List EvT) (es : List EvP) : Prop where
  row : OwnK evTy w A c ys
  rowAt : ∀ a, A = some a → lo ≤ a.block ∧ a.block < hi
  all : OwnEs w lo hi A ys es
theorem EsF.chg {S : List Nat} {w w' : World} {lo hi : Nat} {A : Option Addr} {c : Nat} {ys : List EvT} {es : List EvP} (h : EsF w lo hi A c ys es) (hc : Chg S w w') (hS : ∀ i ∈ S, ¬ (lo ≤ i ∧ i < hi)) : EsF w' lo hi A c ys es :=
  ⟨h.row.chg hc (fun a ha q => hS _ q (h.rowAt a ha)), h.rowAt, h.all.chg hc (fun i hi q => absurd q (hS i hi))⟩
theorem EsF.nil (w : World) (lo hi : Nat) : EsF w lo hi none 0 [] [] := ⟨OwnK.none_ _, (fun a h => by cases h), OwnEs.nil _ _ _ _⟩
end
section
open Go.RowKit Go.Lib
set_option linter.unusedSimpArgs false
set_option linter.unusedVariables false


theorem ins_row1 {α : Type} {full xs : List α} {y : α} {i : Nat} (ht : full.take xs.length = xs) (hi : i < xs.length) : ((full.take (i + 1) ++ xs.drop i ++ full.drop (i + 1 + (xs.drop i).length)).take i ++ [y] ++ (full.take (i + 1) ++ xs.drop i ++ full.drop (i + 1 + (xs.drop i).length)).drop (i + [y].length)).take (xs.take i ++ y :: xs.drop i).length = xs.take i ++ y :: xs.drop i := by
  have hc : xs.length ≤ full.length := by have := congrArg List.length ht; rw [List.length_take] at this; omega
  have hl : (full.take (i + 1)).length = i + 1 := by rw [List.length_take]; omega
  have e1 : (full.take (i + 1) ++ xs.drop i ++ full.drop (i + 1 + (xs.drop i).length)).take i = xs.take i := by
    rw [List.append_assoc, List.take_append_of_le_length (by omega), List.take_take, Nat.min_eq_left (by omega), ← ht, List.take_take, Nat.min_eq_left (by omega)]
  have e2 : (full.take (i + 1) ++ xs.drop i ++ full.drop (i + 1 + (xs.drop i).length)).drop (i + [y].length) = xs.drop i ++ full.drop (i + 1 + (xs.drop i).length) := by
    rw [List.append_assoc, List.drop_append_of_le_length (by rw [List.length_singleton]; omega), List.drop_of_length_le (by rw [List.length_singleton]; omega), List.nil_append]
  rw [e1, e2]
  have e3 : xs.take i ++ [y] ++ (xs.drop i ++ full.drop (i + 1 + (xs.drop i).length)) = (xs.take i ++ y :: xs.drop i) ++ full.drop (i + 1 + (xs.drop i).length) := by simp
  rw [e3, List.take_left]
theorem ins_row2 {α : Type} {xs R : List α} {y : α} {i : Nat} (hi : i < xs.length) (hR : xs.length + 1 - i ≤ R.length) : (((xs.take i ++ R).take i ++ [y] ++ (xs.take i ++ R).drop (i + [y].length)).take (i + 1) ++ xs.drop i ++ ((xs.take i ++ R).take i ++ [y] ++ (xs.take i ++ R).drop (i + [y].length)).drop (i + 1 + (xs.drop i).length)).take (xs.take i ++ y :: xs.drop i).length = xs.take i ++ y :: xs.drop i := by
  have hl : (xs.take i).length = i := by rw [List.length_take]; omega
  have e1 : (xs.take i ++ R).take i = xs.take i := by rw [List.take_append_of_le_length (by omega), List.take_take, Nat.min_self]
  rw [e1]
  have e2 : (xs.take i ++ [y] ++ (xs.take i ++ R).drop (i + [y].length)).take (i + 1) = xs.take i ++ [y] := by
    rw [List.take_append_of_le_length (by simp; omega), List.take_of_length_le (by simp; omega)]
  rw [e2]
  have e3 : ∀ T : List α, xs.take i ++ [y] ++ xs.drop i ++ T = (xs.take i ++ y :: xs.drop i) ++ T := fun T => by simp
  rw [e3, List.take_left]
set_option maxRecDepth 100000 in
set_option maxHeartbeats 8000000 in
/-- slices.Insert of one event into a row that is owned. -/
theorem insev_any (w : World) (A : Option Addr) (c : Nat) (xs : List EvT) (i vb : Nat) (y : EvT) (h : OwnK evTy w A c xs) (hi : i ≤ xs.length) (hn : xs.length ≤ 100000) (hv : w.heap[vb]? = some (.cells #[.int .i64 y.n, .int .i64 y.s, .string y.p, .int .i64 y.k, .int .i64 y.m, .slice y.A y.l y.c, .slice y.B y.bl y.bc] 30 (0, 0))) (hne : ∀ a, A = some a → a.block ≠ vb) :
    Calls Tryz.prog 40 #[.slice A xs.length c, .int .i64 (i : Int), .slice (some ⟨vb, 0, none⟩) 1 1] w fun r w' => ∃ (A' : Option Addr) (c' : Nat), r = .returned (.slice A' (xs.length + 1) c') ∧ OwnK evTy w' A' c' (xs.take i ++ y :: xs.drop i) ∧ (∀ a, A' = some a → A = some a ∨ w.heap.size ≤ a.block) ∧ ∀ w0 : World, Chg [] w0 w → (∀ a, A = some a → w0.heap.size ≤ a.block) → Chg [] w0 w' := by

  have XR : Hid (RdK evTy w (some ⟨vb, 0, none⟩) 1 [y]) := Lib.hid (rd_oneEc hv)
  have HN : Hid ((xs.length + 1) * 400 ≤ 140737488355327) := Lib.hid (by omega)
  have O := Lib.hid h
  have n1 : ¬ ((1 : Int) = 0) := by decide
  by_cases hil : i = xs.length
  · subst hil
    have NL : Hid ((xs.take xs.length ++ y :: xs.drop xs.length) = xs ++ [y]) := Lib.hid (by simp)
    have e1 : (((xs.length : Int) == (xs.length : Int)) : Bool) = true := by simp
    clear h hi hn hv hne
    go_enter Tryz.func40, Tryz.ntmps40
    go_wp2_with (at_builtin; refine wpList_appK (R := evTy) rfl (.tmp 23) (.tmp 24) rfl rfl (A := A) (n := xs.length) (m := 1) (c := c) (d := 1) (xs := xs) (ys := [y]) O.out rfl rfl XR.out HN.out ?_; intro A9 c9 w9 o9 g9 e9)
    all_goals (
      have O9 := Lib.hid o9
      have E9 := Lib.hid e9
      have G9 := Lib.hid (fun (w0 : World) (h0 : Chg [] w0 w) (hA : ∀ a, A = some a → w0.heap.size ≤ a.block) => (fresh_appE (w2 := w0) hA h0 g9 e9).2)
      clear o9 g9 e9
      go_wp2
      go_ret
      refine ⟨A9, c9, rfl, (by first | exact O9.out | (rw [NL.out]; exact O9.out)), (fun a ha => E9.out.elim (fun q => .inl (q ▸ ha)) (fun q => .inr (by rw [q] at ha; cases ha; exact Nat.le_refl _))), G9.out⟩)
  · obtain ⟨g, full, rfl, hg, hfl, hcm, hnc, hft⟩ : ∃ (g : Nat) (full : List EvT), A = some ⟨g, 0, none⟩ ∧ w.heap[g]? = some (.cells (evTy.flat full).toArray 30 (0, 0)) ∧ full.length = c ∧ c ≤ maxLen ∧ xs.length ≤ c ∧ full.take xs.length = xs := by
      rcases h with ⟨_, q, _⟩ | q
      · subst q
        have : i = 0 := by simpa using hi
        exact absurd this hil
      · exact q
    have k7 : evTy.k = 7 := rfl
    have gv : g ≠ vb := hne _ rfl
    have lg := lt_of_heap hg
    have lv := lt_of_heap hv
    have i0 : (0 : Int) ≤ (i : Int) := by omega
    have i1 : (i : Int) ≤ (xs.length : Int) := by omega
    have i2 : i ≤ xs.length := hi
    have e1 : (((i : Int) == (xs.length : Int)) : Bool) = false := by simp; omega
    have e2 : ¬ (i : Int) = (xs.length : Int) := by omega
    have w1 : IntKind.i64.wrap ((xs.length : Int) + 1) = ((xs.length + 1 : Nat) : Int) := by rw [IntWalk.i64_in _ (by omega)]; omega
    have w2 : IntKind.i64.wrap ((i : Int) + 1) = ((i + 1 : Nat) : Int) := by rw [IntWalk.i64_in _ (by omega)]; omega
    have DR : Hid (RdK evTy w (some ⟨g, i * 7, none⟩) (xs.length - i) (xs.drop i)) := Lib.hid (by
      have q := (h.reads).part i (xs.length - i) (by omega)
      rw [List.take_of_length_le (by rw [List.length_drop]; omega), Nat.zero_add] at q
      exact q)
    by_cases hr : xs.length + 1 ≤ c
    · have HOV : ∀ lb cb, (callFunc 77 #[.slice (some ⟨vb, 0, none⟩) 1 1, .slice (some ⟨g, (i + 1) * 7, none⟩) lb cb]).run Tryz.prog w = .ok (.value (.bool false)) w := fun lb cb => by
        have ho := run_overlaps_apart (P := Tryz.prog) w 22 4 30 Tryz.underlying22 7 (fun w => by first | rfl | kernel_rfl) ⟨vb, 0, none⟩ ⟨g, (i + 1) * 7, none⟩ 1 1 lb cb (fun e => gv e.symm) 30 30 7 (c * 7) (by simp [World.shape?, hv]) (by simp [World.shape?, hg, evTy.flat_len, hfl, k7]) (by omega) (by simp [World.frozen?, hv]) (by simp [World.frozen?, hv])
        rw [run_callFunc_extern (e := Extern.SlicesOverlaps.overlaps #[22, 22] #[4]) Tryz.func77 (by kernel_rfl) (by kernel_rfl) (by kernel_rfl) (by kernel_rfl), ho]
        rfl
      have b1 : (0 : Int) ≤ ((xs.length + 1 : Nat) : Int) := by omega
      have b2 : ((xs.length + 1 : Nat) : Int) ≤ (c : Int) := by omega
      have b3 : xs.length + 1 ≤ c := by omega
      have b4 : ((i + 1 : Nat) : Int) ≤ ((xs.length + 1 : Nat) : Int) := by omega
      have b5 : i + 1 ≤ xs.length + 1 := by omega
      have b6 : ¬ c = i + 1 := by omega
      have b7 : ¬ c = i := by omega
      have b8 : (0 : Int) ≤ ((i + 1 : Nat) : Int) := by omega
      have b9 : ¬ (c : Int) < ((xs.length + 1 : Nat) : Int) := by omega
      have b10 : (i : Int) ≤ ((xs.length + 1 : Nat) : Int) := by omega
      have b11 : i ≤ xs.length + 1 := by omega
      have b12 : (0 : Int) ≤ (i : Int) + 1 := by omega
      have b13 : (i : Int) + 1 ≤ (xs.length : Int) + 1 := by omega
      have b14 : (i : Int) ≤ (xs.length : Int) + 1 := by omega
      have FG := Lib.hid hg
      have FL := Lib.hid hfl
      have FC := Lib.hid hcm
      have FN := Lib.hid hnc
      have FT := Lib.hid hft
      have VB := Lib.hid hv
      have GV := Lib.hid gv
      clear h hi hn hv hne hg hfl hcm hnc hft gv lg lv O
      go_enter Tryz.func40, Tryz.ntmps40
      go_upto_region 14 with fail
      go_wp2_with (simp only [HOV])
      clear HOV
      obtain ⟨F1, hF1⟩ : ∃ F1, F1 = full.take (i + 1) ++ xs.drop i ++ full.drop (i + 1 + (xs.drop i).length) := ⟨_, rfl⟩
      have HCP : ∀ W, Chg [] w W → ∀ ty dc sc, (Builtin.copy_ #[22, 22] ty #[.slice (some ⟨g, (i + 1) * 7, none⟩) (xs.length - i) dc, .slice (some ⟨g, i * 7, none⟩) (xs.length + 1 - i) sc]).run Tryz.prog W = .ok (goInt (xs.drop i).length) (W.setRow g (evTy.flat F1).toArray) := fun W hW ty dc sc => by
        have q := run_copyK (R := evTy) W ty (g := g) (off := i + 1) (dLen := xs.length - i) (dCap := dc) (sLen := xs.length + 1 - i) (sCap := sc) (B := some ⟨g, i * 7, none⟩) (ys := xs.drop i) (full := full) (hW.at_ FG.out (by simp)) (by have := DR.out.chg hW (by simp); rw [List.length_drop]; exact this) (by rw [List.length_drop]; simp only [Nat.min_def]; split <;> omega) (by rw [List.length_drop, FL.out]; omega)
        rw [← hF1] at q
        exact q
      have L1 : Hid (F1.length = c) := Lib.hid (by rw [hF1]; have := FL.out; simp; omega)
      have HC2 : ∀ W, W.heap[g]? = some (.cells (evTy.flat F1).toArray 30 (0, 0)) → RdK evTy W (some ⟨vb, 0, none⟩) 1 [y] → ∀ ty dc, (Builtin.copy_ #[22, 22] ty #[.slice (some ⟨g, i * 7, none⟩) (xs.length + 1 - i) dc, .slice (some ⟨vb, 0, none⟩) 1 1]).run Tryz.prog W = .ok (goInt ([y] : List EvT).length) (W.setRow g (evTy.flat (F1.take i ++ [y] ++ F1.drop (i + [y].length))).toArray) := fun W hg hv ty dc =>
        run_copyK (R := evTy) W ty (g := g) (off := i) (dLen := xs.length + 1 - i) (dCap := dc) (sLen := 1) (sCap := 1) (B := some ⟨vb, 0, none⟩) (ys := [y]) (full := F1) hg hv (by simp only [Nat.min_def, List.length_singleton]; split <;> omega) (by rw [L1.out]; simp; omega)
      have FIN : Hid ((F1.take i ++ [y] ++ F1.drop (i + [y].length)).take (xs.take i ++ y :: xs.drop i).length = xs.take i ++ y :: xs.drop i) := Lib.hid (by rw [hF1]; exact ins_row1 FT.out (by omega))
      have LNI : Hid ((xs.take i ++ y :: xs.drop i).length = xs.length + 1) := Lib.hid (by simp; omega)
      obtain ⟨F2, hF2⟩ : ∃ F2, F2 = F1.take i ++ [y] ++ F1.drop (i + [y].length) := ⟨_, rfl⟩
      have L2 : Hid (F2.length = c) := Lib.hid (by rw [hF2]; have := L1.out; simp; omega)
      rw [← hF2] at FIN
      simp only [← hF2] at HC2
      clear hF1 hF2

      refine wp_region_held_drew (S := fun w' => True) (by kernel_rfl) trivial (fun hHeld => ?_)
      have hHeld := trivial
      refine sy 0 69 rfl rfl ?_ (hS := trivial)
      try simp only [Act.put, sA, s0, s1]
      refine sy 1 70 rfl rfl ?_ (hS := trivial)
      try simp only [Act.put, sA, s0, s1]
      refine sy 2 71 rfl rfl ?_ (hS := trivial)
      try simp only [Act.put, sA, s0, s1]
      refine sy 3 72 rfl rfl ?_ (hS := trivial)
      try simp only [Act.put, sA, s0, s1]
      refine sy 4 73 rfl rfl ?_ (hS := trivial)
      try simp only [Act.put, sA, s0, s1]
      refine sy 5 74 rfl rfl ?_ (hS := trivial)
      try simp only [Act.put, sA, s0, s1]
      refine sy 6 75 rfl rfl ?_ (hS := trivial)
      try simp only [Act.put, sA, s0, s1]
      refine sy 7 76 rfl rfl ?_ (hS := trivial)
      try simp only [Act.put, sA, s0, s1]
      refine wpAnyH_ready (rs := [8]) (by kernel_rfl) (by simp) ?_
      refine AllReadyH.cons rfl (fun K hK => ?_) AllReadyH.nil
      replace hK := Lib.hid hK
      refine step_copyR rfl (.tmp 73) (.tmp 76) 22 22 rfl (.slice (some ⟨g, (i + 1) * 7, none⟩) (xs.length - i) (c - (i + 1))) (.slice (some ⟨g, i * 7, none⟩) (xs.length + 1 - i) (c - i)) rfl rfl (HCP _ ((Chg.refl [] w).drew) _ _ _) ?_
      go_simp
      have K1 := setRow_heap w.drew g _ (evTy.flat F1).toArray _ _ (((Chg.refl [] w).drew).at_ FG.out (by simp))
      have C1 : Chg [g] w (w.drew.setRow g (evTy.flat F1).toArray) := ((Chg.refl [] w).drew.mono (by simp)).trans ⟨rfl, rfl, rfl, by simp, fun j hj hn => setRow_other w.drew g j _ (by simpa using hn)⟩
      generalize w.drew.setRow g (evTy.flat F1).toArray = w2 at *
      refine hK.out _ _ trivial (fun hHeld => ?_)
      clear hK K
      try simp only [Act.put, sA, s0, s1]
      refine wpAnyH_done (by kernel_rfl) ?_ _
      clear hHeld HCP
      have V2 : RdK evTy w2 (some ⟨vb, 0, none⟩) 1 [y] := XR.out.chg C1 (fun a ha => by cases ha; simpa using fun e => GV.out e.symm)
      have HC3 := HC2 w2 K1 V2
      have K2 := Lib.hid (setRow_heap w2 g _ (evTy.flat F2).toArray _ _ K1)
      have C2 : Hid (Chg [g] w (w2.setRow g (evTy.flat F2).toArray)) := Lib.hid (C1.trans ⟨rfl, rfl, rfl, by simp, fun j hj hn => setRow_other w2 g j _ (by simpa using hn)⟩)
      have C1H := Lib.hid C1
      clear HC2 K1 V2 C1
      go_wp2_with (first | (at_builtin; refine wpList_copyR _ rfl (.tmp 80) (.tmp 81) 22 22 rfl (.slice (some ⟨g, i * 7, none⟩) (xs.length + 1 - i) (c - i)) (.slice (some ⟨vb, 0, none⟩) 1 1) rfl rfl (HC3 _ _) ?_) | (with_reducible refine wpList_copyR _ rfl (.tmp 80) (.tmp 81) 22 22 rfl (.slice (some ⟨g, i * 7, none⟩) (xs.length + 1 - i) (c - i)) (.slice (some ⟨vb, 0, none⟩) 1 1) rfl rfl (HC3 _ _) ?_))
      go_ret
      refine ⟨some ⟨g, 0, none⟩, c, rfl, OwnK.of K2.out (by rw [LNI.out]; exact b3) FC.out L2.out FIN.out, fun a ha => .inl ha, fun w0 h0 hA => h0.trans' C2.out (fun j hj => by simp at hj; subst hj; exact .inr (hA _ rfl))⟩
    · obtain ⟨i0', hi0, hz0, hz1, hz2⟩ := info_parts evTy.info
      have HRZ0 := run_append_grow_zeros (P := Tryz.prog) w 22 3 0 30 i0' evTy.zv .i64 .i64 evTy.under (by first | rfl | kernel_rfl) hi0 hz0 (some ⟨g, 0, none⟩) i c (evTy.flat (xs.take i)) (run_firstCells_some (P := Tryz.prog) w.drew i0'.size i ⟨g, 0, none⟩ i c (evTy.flat (xs.take i)) (by rw [hz1, evTy.flat_len, List.length_take, Nat.min_eq_left (by omega)]) (fun j v hj => by
        have q := ((h.take i).chg (Chg.refl [] w).drew (by simp)).reads.cells j v hj
        obtain ⟨a, e, q⟩ := q
        cases e
        exact q)) (xs.length + 1 - i) (by omega) (by rw [hz1, k7]; omega) (by omega) (by omega) (by rw [hz2]; have : evTy.bytes ≤ 200 := evTy.bpos; have := Nat.mul_le_mul_left (xs.length + 1 - i) this; omega) (growslice_fits (by omega) (by rw [hz2]; have : evTy.bytes ≤ 200 := evTy.bpos; have := Nat.mul_le_mul_left (i + (xs.length + 1 - i)) this; omega))
      rw [show i + (xs.length + 1 - i) = xs.length + 1 by omega] at HRZ0
      obtain ⟨G, hG⟩ : ∃ G, G = grownCap w (xs.length + 1) c 30 := ⟨_, rfl⟩
      have GE : xs.length + 1 ≤ G := by rw [hG]; exact grownCap_ge w _ _ _
      have GM : G ≤ maxLen := by rw [hG]; exact grownCap_le_maxLen w _ _ _ (by unfold maxLen; omega)
      obtain ⟨R, hR⟩ : ∃ R, R = List.replicate (xs.length + 1 - i) evTy.z ++ List.replicate (G - (xs.length + 1)) evTy.z := ⟨_, rfl⟩
      have LR : xs.length + 1 - i ≤ R.length := by rw [hR]; simp
      have hrow : (evTy.flat (xs.take i)).toArray ++ Builtin.zeroCells evTy.zv.cells (xs.length + 1 - i) ++ Builtin.zeroCells evTy.zv.cells (G - (xs.length + 1)) = (evTy.flat (xs.take i ++ R)).toArray := by
        rw [hR, evTy.zeros, evTy.zeros, evTy.flat_app, evTy.flat_app]
        simp
      rw [← hG, hrow] at HRZ0
      have L0 : (xs.take i ++ R).length = G := by rw [hR]; simp; omega
      have hwr : IntKind.i64.wrap ((((xs.length + 1 : Nat) : Int)) - (i : Int)) = ((xs.length + 1 - i : Nat) : Int) := by rw [IntWalk.i64_in _ (by omega)]; omega
      have hwr2 : IntKind.i64.wrap ((xs.length : Int) + 1 - (i : Int)) = ((xs.length + 1 - i : Nat) : Int) := by rw [IntWalk.i64_in _ (by omega)]; omega
      have HRZ : ∀ ty, (Builtin.append_ #[22, 3] ty #[.slice (some ⟨g, 0, none⟩) i c, .int .i64 ((xs.length + 1 - i : Nat) : Int)]).run Tryz.prog w = .ok (.slice (some ⟨w.heap.size, 0, none⟩) (xs.length + 1) G) (w.drew.alloc (.cells (evTy.flat (xs.take i ++ R)).toArray 30)) := fun ty => HRZ0
      clear HRZ0 hrow hG hR hi0 hz0 hz1 hz2
      obtain ⟨w1, hw1, c1, q1⟩ : ∃ w1, w.drew.alloc (.cells (evTy.flat (xs.take i ++ R)).toArray 30) = w1 ∧ Chg [] w w1 ∧ w1.heap[w.heap.size]? = some (.cells (evTy.flat (xs.take i ++ R)).toArray 30 (0, 0)) := ⟨_, rfl, (Chg.refl [] w).drew.alloc _, heap_alloc_new w.drew _⟩
      simp only [hw1] at HRZ
      obtain ⟨g2, hg2⟩ : ∃ g2, w.heap.size = g2 := ⟨_, rfl⟩
      rw [hg2] at q1
      simp only [hg2] at HRZ
      have G2 : g2 ≠ g := by omega
      have G3 : g2 ≠ vb := by omega
      obtain ⟨F1, hF1⟩ : ∃ F1, F1 = (xs.take i ++ R).take i ++ [y] ++ (xs.take i ++ R).drop (i + [y].length) := ⟨_, rfl⟩
      obtain ⟨F2, hF2⟩ : ∃ F2, F2 = F1.take (i + 1) ++ xs.drop i ++ F1.drop (i + 1 + (xs.drop i).length) := ⟨_, rfl⟩
      have L1 : F1.length = G := by rw [hF1]; simp at L0 ⊢; omega
      have L2 : F2.length = G := by rw [hF2]; simp; omega
      have HC1 : ∀ ty dc, (Builtin.copy_ #[22, 22] ty #[.slice (some ⟨g2, i * 7, none⟩) (xs.length + 1 - i) dc, .slice (some ⟨vb, 0, none⟩) 1 1]).run Tryz.prog w1 = .ok (goInt ([y] : List EvT).length) (w1.setRow g2 (evTy.flat F1).toArray) := fun ty dc => by
        have q := run_copyK (R := evTy) w1 ty (g := g2) (off := i) (dLen := xs.length + 1 - i) (dCap := dc) (sLen := 1) (sCap := 1) (B := some ⟨vb, 0, none⟩) (ys := [y]) (full := xs.take i ++ R) q1 (XR.out.chg c1 (by simp)) (by simp only [Nat.min_def, List.length_singleton]; split <;> omega) (by rw [L0]; simp; omega)
        rw [← hF1] at q
        exact q
      have k1 := setRow_heap w1 g2 _ (evTy.flat F1).toArray _ _ q1
      have C1 : Chg [g2] w1 (w1.setRow g2 (evTy.flat F1).toArray) := ⟨rfl, rfl, rfl, by simp, fun j hj hn => setRow_other w1 g2 j _ (by simpa using hn)⟩
      generalize w1.setRow g2 (evTy.flat F1).toArray = w2 at *
      have HC2 : ∀ W, Chg [] w2 W → ∀ ty dc sc, (Builtin.copy_ #[22, 22] ty #[.slice (some ⟨g2, (i + 1) * 7, none⟩) (xs.length - i) dc, .slice (some ⟨g, i * 7, none⟩) (xs.length - i) sc]).run Tryz.prog W = .ok (goInt (xs.drop i).length) (W.setRow g2 (evTy.flat F2).toArray) := fun W hW ty dc sc => by
        have q := run_copyK (R := evTy) W ty (g := g2) (off := i + 1) (dLen := xs.length - i) (dCap := dc) (sLen := xs.length - i) (sCap := sc) (B := some ⟨g, i * 7, none⟩) (ys := xs.drop i) (full := F1) (hW.at_ k1 (by simp)) (by have := ((DR.out.chg c1 (by simp)).chg C1 (fun a ha => by cases ha; simpa using fun e => G2 e.symm)).chg hW (by simp); rw [List.length_drop]; exact this) (by rw [List.length_drop]; simp only [Nat.min_def]; split <;> omega) (by rw [List.length_drop, L1]; omega)
        rw [← hF2] at q
        exact q
      have FIN : Hid (F2.take (xs.take i ++ y :: xs.drop i).length = xs.take i ++ y :: xs.drop i) := Lib.hid (by rw [hF2, hF1]; exact ins_row2 (by omega) LR)
      have LNI : Hid ((xs.take i ++ y :: xs.drop i).length = xs.length + 1) := Lib.hid (by simp; omega)
      have K1 := Lib.hid k1
      have L2H := Lib.hid L2
      have C12 : Hid (Chg [g2] w w2) := Lib.hid ((c1.mono (by simp)).trans C1)
      have HG2 := Lib.hid hg2
      have GMH := Lib.hid GM
      have b1 : (0 : Int) ≤ (i : Int) + 1 := by omega
      have b2 : (i : Int) + 1 ≤ (xs.length : Int) + 1 := by omega
      have b3 : (i : Int) ≤ (xs.length : Int) + 1 := by omega
      have b4 : (c : Int) < ((xs.length + 1 : Nat) : Int) := by omega
      have b5 : (c : Int) < (xs.length : Int) + 1 := by omega
      have b6 : ¬ c = i := by omega
      have b7 : ¬ G = i := by omega
      have b8 : ¬ G = i + 1 := by omega
      have b9 : i ≤ c := by omega
      have b10 : (i : Int) ≤ (c : Int) := by omega
      clear hF1 hF2 k1 C1 c1 q1 hw1 hg2 GM L0 L1 L2 LR h hi hn hv hne hg hfl hcm hft gv lg lv O G2 G3 hwr
      go_enter Tryz.func40, Tryz.ntmps40
      go_wp2_with (first | (at_builtin; refine wpList_append_run _ rfl (.tmp 34) (.tmp 39) 22 3 rfl _ _ rfl rfl _ _ (HRZ _) ?_) | (at_builtin; refine wpList_copyR _ rfl (.tmp 43) (.tmp 44) 22 22 rfl (.slice (some ⟨g2, i * 7, none⟩) (xs.length + 1 - i) (G - i)) (.slice (some ⟨vb, 0, none⟩) 1 1) rfl rfl (HC1 _ _) ?_))
      clear HRZ HC1
      refine wp_region_held_drew (S := fun w' => True) (by kernel_rfl) trivial (fun hHeld => ?_)
      have hHeld := trivial
      refine sy 0 46 rfl rfl ?_ (hS := trivial)
      try simp only [Act.put, sA, s0, s1]
      refine sy 1 47 rfl rfl ?_ (hS := trivial)
      try simp only [Act.put, sA, s0, s1]
      refine sy 2 48 rfl rfl ?_ (hS := trivial)
      try simp only [Act.put, sA, s0, s1]
      refine sy 3 49 rfl rfl ?_ (hS := trivial)
      try simp only [Act.put, sA, s0, s1]
      refine sy 4 50 rfl rfl ?_ (hS := trivial)
      try simp only [Act.put, sA, s0, s1]
      refine sy 5 51 rfl rfl ?_ (hS := trivial)
      try simp only [Act.put, sA, s0, s1]
      refine sy 6 52 rfl rfl ?_ (hS := trivial)
      try simp only [Act.put, sA, s0, s1]
      refine sy 7 53 rfl rfl ?_ (hS := trivial)
      try simp only [Act.put, sA, s0, s1]
      refine wpAnyH_ready (rs := [8]) (by kernel_rfl) (by simp) ?_
      refine AllReadyH.cons rfl (fun K hK => ?_) AllReadyH.nil
      replace hK := Lib.hid hK
      refine step_copyR rfl (.tmp 50) (.tmp 53) 22 22 rfl (.slice (some ⟨g2, (i + 1) * 7, none⟩) (xs.length - i) (G - (i + 1))) (.slice (some ⟨g, i * 7, none⟩) (xs.length - i) (c - i)) rfl rfl (HC2 _ ((Chg.refl [] w2).drew) _ _ _) ?_
      go_simp
      have K2 := setRow_heap w2.drew g2 _ (evTy.flat F2).toArray _ _ (((Chg.refl [] w2).drew).at_ K1.out (by simp))
      have C2 : Chg [g2] w (w2.drew.setRow g2 (evTy.flat F2).toArray) := (C12.out.trans ((Chg.refl [] w2).drew.mono (by simp))).trans ⟨rfl, rfl, rfl, by simp, fun j hj hn => setRow_other w2.drew g2 j _ (by simpa using hn)⟩
      generalize w2.drew.setRow g2 (evTy.flat F2).toArray = w3 at *
      refine hK.out _ _ trivial (fun hHeld => ?_)
      clear hK K
      try simp only [Act.put, sA, s0, s1]
      refine wpAnyH_done (by kernel_rfl) ?_ _
      clear hHeld HC2
      have K3 := Lib.hid K2
      have C3 := Lib.hid C2
      have GEH := Lib.hid GE
      clear K2 C2 C12 K1
      go_wp2
      go_ret
      refine ⟨some ⟨g2, 0, none⟩, G, rfl, OwnK.of K3.out (by rw [LNI.out]; exact GEH.out) GMH.out L2H.out FIN.out, fun a ha => .inr (by cases ha; rw [HG2.out]; exact Nat.le_refl _), fun w0 h0 hA => h0.trans' C3.out (fun j hj => by simp at hj; subst hj; exact .inr (by rw [← HG2.out]; exact h0.size))⟩
end
end Go.Proofs.YtdfapiffalmjcaaGreatDoor
