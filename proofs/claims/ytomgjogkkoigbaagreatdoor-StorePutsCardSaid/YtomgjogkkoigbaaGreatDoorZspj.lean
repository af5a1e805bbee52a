/- The kit's CopyEvents. A row of structs: one cell of one of them is stored. No program here. Lists of events in memory of their own. slices.Insert of one event. The kit's CopyEvents, with what it makes new. The document's own: an event in memory of its own. The document's own (store): events in memory of their own. past.Has: how a span lies to a dot. past.Has: a dot is looked for. past.Has. -/
import Derived.Test.YtomgjogkkoigbaaGreatDoorZspd
import Derived.Test.YtomgjogkkoigbaaGreatDoorZspe
import Derived.Test.YtomgjogkkoigbaaGreatDoorZspi
import Derived.Deep.Cut
import Derived.Test.YtomgjogkkoigbaaGreatDoorZspa
import Derived.BigQuiet
set_option linter.unusedSimpArgs false
set_option linter.unusedVariables false
namespace Go.Proofs.YtomgjogkkoigbaaGreatDoor
section
open Go.RowKit Go.Lib


theorem fresh_appE {w2 w w' : World} {A A' : Option Addr} (hA : ∀ a, A = some a → w2.heap.size ≤ a.block) (hC : Chg [] w2 w) (g : w.grownBy w' (A.map (·.block))) (e : A' = A ∨ A' = some ⟨w.heap.size, 0, none⟩) :
  (∀ a, A' = some a → w2.heap.size ≤ a.block) ∧ Chg [] w2 w' := by
 refine ⟨?_, hC.grown g ?_⟩
 ·
  rintro a ha
  rcases e with rfl | rfl
  ·
   exact hA a ha
  ·
   cases ha; exact hC.size
 ·
  rintro i hi
  cases A with
  | none => simp at hi
  | some a => simp at hi; subst hi; exact .inr (hA a rfl)
theorem rd_oneEc {w : World} {g : Nat} {X : EvT} (h : w.heap[g]? = some (.cells #[.int .i64 X.n, .int .i64 X.s, .string X.p, .int .i64 X.k, .int .i64 X.m, .slice X.A X.l X.c, .slice X.B X.bl X.bc] 30)) : RdK evTy w (some ⟨g, 0, none⟩) 1 [X] :=
 ⟨rfl, fun j v hj => ⟨_, rfl, by rw [add_zero_lit, cell_of h j]; simpa [RowTy.flat, evTy] using hj⟩⟩
def ApartE (w : World) (A : Option Addr) (xs : List EvT) : Prop := ∀ x ∈ xs, (∀ a, x.A = some a → a.block < w.heap.size ∧ ∀ b, A = some b → a.block ≠ b.block) ∧ (∀ a, x.B = some a → a.block < w.heap.size ∧ ∀ b, A = some b → a.block ≠ b.block) ∧ x.bl ≤ x.bc ∧ x.bc ≤ maxLen
theorem EvsR.snoc {w : World} {xs : List EvT} {es : List EvP} {x : EvT} {e : EvP} (h : EvsR w xs es) (r : EvR w x e) : EvsR w (xs ++ [x]) (es ++ [e]) := by
 refine ⟨by simp [h.1], fun i y f hy hf => ?_⟩
 by_cases q : i < xs.length
 ·
  rw [List.getElem?_append_left q] at hy
  rw [List.getElem?_append_left (by rw [← h.1]; exact q)] at hf
  exact h.2 i y f hy hf
 ·
  rw [List.getElem?_append_right (by omega)] at hy
  rw [List.getElem?_append_right (by rw [← h.1]; omega), ← h.1] at hf
  have hi := (List.getElem?_eq_some_iff.1 hy).1
  simp at hi
  rw [hi] at hy hf
  simp at hy hf
  subst hy hf
  exact r
theorem EvR.chgS {S : List Nat} {w w' : World} {x : EvT} {e : EvP} (h : EvR w x e) (hc : Chg S w w') (hA : ∀ a, x.A = some a → a.block ∉ S) (hB : ∀ a, x.B = some a → a.block ∉ S) : EvR w' x e := ⟨h.n, h.s, h.p, h.k, h.m, h.l, h.bl, h.A.chg hc hA, h.B.chg hc hB⟩
theorem EvsR.chgS {S : List Nat} {w w' : World} {xs : List EvT} {es : List EvP} (h : EvsR w xs es) (hc : Chg S w w') (hS : ∀ x ∈ xs, (∀ a, x.A = some a → a.block ∉ S) ∧ (∀ a, x.B = some a → a.block ∉ S)) : EvsR w' xs es :=
 ⟨h.1, fun i x e hx he => (h.2 i x e hx he).chgS hc (hS x (List.mem_of_getElem? hx)).1 (hS x (List.mem_of_getElem? hx)).2⟩
end
section
variable {α : Type} {R : RowTy α}
theorem flat_set (full : List α) (j i : Nat) (x x' : α) (v : Value) (hx : full[j]? = some x) (hi : i < R.k) (he : ∀ q, q < R.k → (R.enc x')[q]? = if q = i then some v else (R.enc x)[q]?) :
  (R.flat full).set (j * R.k + i) v = R.flat (full.set j x') := by
 have hj := (List.getElem?_eq_some_iff.1 hx).1
 have hb : j * R.k + i < full.length * R.k := by
  have : (j + 1) * R.k ≤ full.length * R.k := Nat.mul_le_mul_right _ hj
  rw [Nat.add_mul, Nat.one_mul] at this
  omega
 refine R.flat_ext _ _ (by rw [List.length_set, R.flat_len, List.length_set]) (fun q p y hy hp => ?_)
 rw [List.getElem?_set] at hy
 rw [List.getElem?_set, R.flat_len]
 by_cases e : j = q
 ·
  subst e
  rw [if_pos rfl, if_pos hj] at hy
  cases hy
  rw [he p hp]
  by_cases e2 : p = i
  ·
   subst e2
   rw [if_pos rfl, if_pos hb, if_pos rfl]
  ·
   rw [if_neg (by omega), if_neg e2, R.flat_at full j p x hx hp]
 ·
  rw [if_neg e] at hy
  rw [if_neg, R.flat_at full q p y hy hp]
  intro e3
  rcases Nat.lt_or_gt_of_ne e with h | h
  ·
   have : (j + 1) * R.k ≤ q * R.k := Nat.mul_le_mul_right _ h
   rw [Nat.add_mul, Nat.one_mul] at this
   omega
  ·
   have : (q + 1) * R.k ≤ j * R.k := Nat.mul_le_mul_right _ h
   rw [Nat.add_mul, Nat.one_mul] at this
   omega
theorem OwnK.setc {w : World} {g c : Nat} {xs : List α} (h : OwnK R w (some ⟨g, 0, none⟩) c xs) (j i : Nat) (x x' : α) (v : Value) (hx : xs[j]? = some x) (hi : i < R.k) (he : ∀ q, q < R.k → (R.enc x')[q]? = if q = i then some v else (R.enc x)[q]?) :
  OwnK R (w.setCell ⟨g, j * R.k + i, none⟩ v) (some ⟨g, 0, none⟩) c (xs.set j x') := by
 have hj := (List.getElem?_eq_some_iff.1 hx).1
 rcases h with ⟨h, _⟩ | ⟨g', full, e, hg, h1, h2, h3, h4⟩
 ·
  cases h
 ·
  cases e
  have hx' : full[j]? = some x := by
   rw [← h4, List.getElem?_take, if_pos hj] at hx
   exact hx
  refine OwnK.of (full := full.set j x') ?_ (by simpa using h3) h2 (by simpa using h1) ?_
  ·
   have := heap_setCell_same w g (j * R.k + i) _ _ v hg
   rw [this, List.setIfInBounds_toArray, flat_set full j i x x' v hx' hi he]
  ·
   rw [List.length_set, List.take_set, h4]
end
section
open Go.RowKit Go.Lib

theorem RowTy.run_mk {α : Type} (R : RowTy α) (n : Nat) (h : n ≤ 1000000) (w : World) : (Instr.makeSlice R.TS (.int .i64 (n : Int)) (.int .i64 (n : Int))).run Tryz.prog w = .ok (.slice (some ⟨w.heap.size, 0, none⟩) n n) (w.alloc (.cells (R.flat (List.replicate n R.z)).toArray R.T)) := by
 have hinf := R.info
 obtain ⟨i0, hi, hm⟩ := Option.map_eq_some_iff.1 hinf
 have hz : i0.zero = some R.zv := congrArg Prod.fst hm
 have hs : i0.size = R.k := congrArg (fun p => p.2.1) hm
 have hb : i0.bytes = R.bytes := congrArg (fun p => p.2.2) hm
 have hr := run_make (P := Tryz.prog) w R.TS R.T i0 R.zv R.under hi hz .i64 .i64 n n (by omega) (by omega) (by rw [hb]; have := R.bpos; have : (R.bytes : Int) * (n : Int) ≤ 200 * (n : Int) := Int.mul_le_mul_of_nonneg_right (by omega) (by omega); omega) (by omega)
 rw [hr, hs, Int.toNat_natCast]
 have hk : R.zv.cells.size = R.k := by rw [← Array.length_toList, R.zc, R.klen]
 have e : madeCells R.zv.cells (n * R.k) = (R.flat (List.replicate n R.z)).toArray := by
  rw [← R.zeros]
  unfold madeCells Builtin.zeroCells
  simp [hk]
 rw [e]
theorem setE_k {xs : List EvT} {j : Nat} {y : EvT} (x : EvT) (h : xs[j]? = some y) : (xs.set j x)[j]? = some x := by
 rw [List.getElem?_set]
 simp [(List.getElem?_eq_some_iff.1 h).1]
theorem OwnK.set7 {w : World} {g c : Nat} {xs : List EvT} (h : OwnK evTy w (some ⟨g, 0, none⟩) c xs) (j : Nat) (y x : EvT) (hx : xs[j]? = some y) :
  OwnK evTy (((((((w.setCell ⟨g, j * 7, none⟩ (.int .i64 x.n)).setCell ⟨g, j * 7 + 1, none⟩ (.int .i64 x.s)).setCell ⟨g, j * 7 + 2, none⟩ (.string x.p)).setCell ⟨g, j * 7 + 3, none⟩ (.int .i64 x.k)).setCell ⟨g, j * 7 + 4, none⟩ (.int .i64 x.m)).setCell ⟨g, j * 7 + 5, none⟩ (.slice x.A x.l x.c)).setCell ⟨g, j * 7 + 6, none⟩ (.slice x.B x.bl x.bc)) (some ⟨g, 0, none⟩) c (xs.set j x) := by
 have a0 := h.setc j 0 y ⟨x.n, y.s, y.p, y.k, y.m, y.A, y.l, y.c, y.B, y.bl, y.bc⟩ (.int .i64 x.n) hx (by decide) (fun q hq => by rcases q with _ | _ | _ | _ | _ | _ | _ | q <;> rfl)
 have a1 := a0.setc j 1 _ ⟨x.n, x.s, y.p, y.k, y.m, y.A, y.l, y.c, y.B, y.bl, y.bc⟩ (.int .i64 x.s) (setE_k _ hx) (by decide) (fun q hq => by rcases q with _ | _ | _ | _ | _ | _ | _ | q <;> rfl)
 rw [List.set_set] at a1
 have a2 := a1.setc j 2 _ ⟨x.n, x.s, x.p, y.k, y.m, y.A, y.l, y.c, y.B, y.bl, y.bc⟩ (.string x.p) (setE_k _ hx) (by decide) (fun q hq => by rcases q with _ | _ | _ | _ | _ | _ | _ | q <;> rfl)
 rw [List.set_set] at a2
 have a3 := a2.setc j 3 _ ⟨x.n, x.s, x.p, x.k, y.m, y.A, y.l, y.c, y.B, y.bl, y.bc⟩ (.int .i64 x.k) (setE_k _ hx) (by decide) (fun q hq => by rcases q with _ | _ | _ | _ | _ | _ | _ | q <;> rfl)
 rw [List.set_set] at a3
 have a4 := a3.setc j 4 _ ⟨x.n, x.s, x.p, x.k, x.m, y.A, y.l, y.c, y.B, y.bl, y.bc⟩ (.int .i64 x.m) (setE_k _ hx) (by decide) (fun q hq => by rcases q with _ | _ | _ | _ | _ | _ | _ | q <;> rfl)
 rw [List.set_set] at a4
 have a5 := a4.setc j 5 _ ⟨x.n, x.s, x.p, x.k, x.m, x.A, x.l, x.c, y.B, y.bl, y.bc⟩ (.slice x.A x.l x.c) (setE_k _ hx) (by decide) (fun q hq => by rcases q with _ | _ | _ | _ | _ | _ | _ | q <;> rfl)
 rw [List.set_set] at a5
 have a6 := a5.setc j 6 _ x (.slice x.B x.bl x.bc) (setE_k _ hx) (by decide) (fun q hq => by rcases q with _ | _ | _ | _ | _ | _ | _ | q <;> rfl)
 rw [List.set_set] at a6
 exact a6
theorem Chg.set7 {S : List Nat} {w0 w : World} {g : Nat} (h : Chg S w0 w) (hg : g ∈ S ∨ w0.heap.size ≤ g) (o : Nat) (v0 v1 v2 v3 v4 v5 v6 : Value) :
  Chg S w0 (((((((w.setCell ⟨g, o, none⟩ v0).setCell ⟨g, o + 1, none⟩ v1).setCell ⟨g, o + 2, none⟩ v2).setCell ⟨g, o + 3, none⟩ v3).setCell ⟨g, o + 4, none⟩ v4).setCell ⟨g, o + 5, none⟩ v5).setCell ⟨g, o + 6, none⟩ v6) :=
 ((((((h.setCell (p := ⟨g, o, none⟩) hg v0).setCell (p := ⟨g, o + 1, none⟩) hg v1).setCell (p := ⟨g, o + 2, none⟩) hg v2).setCell (p := ⟨g, o + 3, none⟩) hg v3).setCell (p := ⟨g, o + 4, none⟩) hg v4).setCell (p := ⟨g, o + 5, none⟩) hg v5).setCell (p := ⟨g, o + 6, none⟩) hg v6
structure OwnEs (w : World) (lo hi : Nat) (G : Option Addr) (ys : List EvT) (es : List EvP) : Prop where
 ev : EvsR w ys es
 own : ∀ (i : Nat) (y : EvT) (e : EvP), ys[i]? = some y → es[i]? = some e → OwnB w y.A y.c e.b ∧ OwnK spanTy w y.B y.bc e.q
 at_ : ∀ y ∈ ys, ∀ a, (y.A = some a ∨ y.B = some a) → lo ≤ a.block ∧ a.block < hi ∧ ∀ b, G = some b → a.block ≠ b.block
 two : ∀ y ∈ ys, ∀ a b, y.A = some a → y.B = some b → a.block ≠ b.block
 apart : ys.Pairwise (fun y z => ∀ a b, (y.A = some a ∨ y.B = some a) → (z.A = some b ∨ z.B = some b) → a.block ≠ b.block)
theorem OwnEs.nil (w : World) (lo hi : Nat) (G : Option Addr) : OwnEs w lo hi G [] [] := ⟨EvsR.nil _, fun i y e h => by simp at h, fun y h => by simp at h, fun y h => by simp at h, List.Pairwise.nil⟩
theorem OwnEs.chg {S : List Nat} {w w' : World} {lo hi : Nat} {G : Option Addr} {ys : List EvT} {es : List EvP} (h : OwnEs w lo hi G ys es) (hc : Chg S w w') (hS : ∀ i ∈ S, (lo ≤ i ∧ i < hi) → ∃ b, G = some b ∧ b.block = i) : OwnEs w' lo hi G ys es := by
 have no : ∀ y ∈ ys, ∀ a, (y.A = some a ∨ y.B = some a) → a.block ∉ S := fun y hy a ha q => by
  obtain ⟨l, u, d⟩ := h.at_ y hy a ha
  obtain ⟨b, hb, e⟩ := hS _ q ⟨l, u⟩
  exact d b hb e.symm
 refine ⟨h.ev.chgS hc (fun x hx => ⟨fun a ha => no x hx a (.inl ha), fun a ha => no x hx a (.inr ha)⟩), fun i y e hy he => ?_, h.at_, h.two, h.apart⟩
 obtain ⟨a, b⟩ := h.own i y e hy he
 exact ⟨a.chg hc (fun a ha => no y (List.mem_of_getElem? hy) a (.inl ha)), b.chg hc (fun a ha => no y (List.mem_of_getElem? hy) a (.inr ha))⟩
theorem OwnEs.mono {w : World} {lo hi hi' : Nat} {G : Option Addr} {ys : List EvT} {es : List EvP} (h : OwnEs w lo hi G ys es) (hh : hi ≤ hi') : OwnEs w lo hi' G ys es :=
 ⟨h.ev, h.own, fun y hy a ha => ⟨(h.at_ y hy a ha).1, by have := (h.at_ y hy a ha).2.1; omega, (h.at_ y hy a ha).2.2⟩, h.two, h.apart⟩
theorem OwnEs.low {w : World} {lo lo' hi : Nat} {G : Option Addr} {ys : List EvT} {es : List EvP} (h : OwnEs w lo hi G ys es) (hh : lo' ≤ lo) : OwnEs w lo' hi G ys es :=
 ⟨h.ev, h.own, fun y hy a ha => ⟨by have := (h.at_ y hy a ha).1; omega, (h.at_ y hy a ha).2⟩, h.two, h.apart⟩
theorem OwnEs.snoc {w : World} {lo hi hi' : Nat} {G : Option Addr} {ys : List EvT} {es : List EvP} {x : EvT} {e : EvP} (h : OwnEs w lo hi G ys es) (hh : lo ≤ hi ∧ hi ≤ hi') (r : EvR w x e) (hA : OwnB w x.A x.c e.b) (hB : OwnK spanTy w x.B x.bc e.q) (ha : ∀ a, (x.A = some a ∨ x.B = some a) → hi ≤ a.block ∧ a.block < hi' ∧ ∀ b, G = some b → a.block ≠ b.block) (h2 : ∀ a b, x.A = some a → x.B = some b → a.block ≠ b.block) : OwnEs w lo hi' G (ys ++ [x]) (es ++ [e]) := by
 refine ⟨h.ev.snoc r, fun i y f hy hf => ?_, fun y hy a q => ?_, fun y hy => ?_, ?_⟩
 ·
  by_cases q : i < ys.length
  ·
   rw [List.getElem?_append_left q] at hy
   rw [List.getElem?_append_left (by rw [← h.ev.1]; exact q)] at hf
   exact h.own i y f hy hf
  ·
   rw [List.getElem?_append_right (by omega)] at hy
   rw [List.getElem?_append_right (by rw [← h.ev.1]; omega), ← h.ev.1] at hf
   have hi := (List.getElem?_eq_some_iff.1 hy).1
   simp at hi
   have e0 : i - ys.length = 0 := by omega
   rw [e0] at hy hf
   cases hy
   cases hf
   exact ⟨hA, hB⟩
 ·
  rcases List.mem_append.1 hy with r | r
  ·
   have := h.at_ y r a q
   exact ⟨this.1, by omega, this.2.2⟩
  ·
   simp at r; subst r
   have := ha a q
   exact ⟨by omega, this.2⟩
 ·
  rcases List.mem_append.1 hy with r | r
  ·
   exact h.two y r
  ·
   simp at r; subst r; exact h2
 ·
  rw [List.pairwise_append]
  refine ⟨h.apart, List.pairwise_singleton _ _, fun y hy z hz a b p q => ?_⟩
  simp at hz
  subst hz
  have := (h.at_ y hy a p).2.1
  have := (ha b q).1
  omega
structure EsF (w : World) (lo hi : Nat) (A : Option Addr) (c : Nat) (ys : List EvT) (es : List EvP) : Prop where
 row : OwnK evTy w A c ys
 rowAt : ∀ a, A = some a → lo ≤ a.block ∧ a.block < hi
 all : OwnEs w lo hi A ys es
theorem EsF.chg {S : List Nat} {w w' : World} {lo hi : Nat} {A : Option Addr} {c : Nat} {ys : List EvT} {es : List EvP} (h : EsF w lo hi A c ys es) (hc : Chg S w w') (hS : ∀ i ∈ S, ¬ (lo ≤ i ∧ i < hi)) : EsF w' lo hi A c ys es :=
 ⟨h.row.chg hc (fun a ha q => hS _ q (h.rowAt a ha)), h.rowAt, h.all.chg hc (fun i hi q => absurd q (hS i hi))⟩
theorem EsF.nil (w : World) (lo hi : Nat) : EsF w lo hi none 0 [] [] := ⟨OwnK.none_ _, (fun a h => by cases h), OwnEs.nil _ _ _ _⟩
end
section
open Go.RowKit Go.Lib


theorem ins_row1 {α : Type} {full xs : List α} {y : α} {i : Nat} (ht : full.take xs.length = xs) (hi : i < xs.length) : ((full.take (i + 1) ++ xs.drop i ++ full.drop (i + 1 + (xs.drop i).length)).take i ++ [y] ++ (full.take (i + 1) ++ xs.drop i ++ full.drop (i + 1 + (xs.drop i).length)).drop (i + [y].length)).take (xs.take i ++ y :: xs.drop i).length = xs.take i ++ y :: xs.drop i := by
 have hc : xs.length ≤ full.length := by have := congrArg List.length ht; rw [List.length_take] at this; omega
 have hl : (full.take (i + 1)).length = i + 1 := by rw [List.length_take]; omega
 have e1 : (full.take (i + 1) ++ xs.drop i ++ full.drop (i + 1 + (xs.drop i).length)).take i = xs.take i := by
  rw [List.append_assoc, List.take_append_of_le_length (by omega), List.take_take, Nat.min_eq_left (by omega), ← ht, List.take_take, Nat.min_eq_left (by omega)]
 have e2 : (full.take (i + 1) ++ xs.drop i ++ full.drop (i + 1 + (xs.drop i).length)).drop (i + [y].length) = xs.drop i ++ full.drop (i + 1 + (xs.drop i).length) := by
  rw [List.append_assoc, List.drop_append_of_le_length (by rw [List.length_singleton]; omega), List.drop_of_length_le (by rw [List.length_singleton]; omega), List.nil_append]
 rw [e1, e2]
 have e3 : xs.take i ++ [y] ++ (xs.drop i ++ full.drop (i + 1 + (xs.drop i).length)) = (xs.take i ++ y :: xs.drop i) ++ full.drop (i + 1 + (xs.drop i).length) := by simp
 rw [e3, List.take_left]
theorem ins_row2 {α : Type} {xs R : List α} {y : α} {i : Nat} (hi : i < xs.length) (hR : xs.length + 1 - i ≤ R.length) : (((xs.take i ++ R).take i ++ [y] ++ (xs.take i ++ R).drop (i + [y].length)).take (i + 1) ++ xs.drop i ++ ((xs.take i ++ R).take i ++ [y] ++ (xs.take i ++ R).drop (i + [y].length)).drop (i + 1 + (xs.drop i).length)).take (xs.take i ++ y :: xs.drop i).length = xs.take i ++ y :: xs.drop i := by
 have hl : (xs.take i).length = i := by rw [List.length_take]; omega
 have e1 : (xs.take i ++ R).take i = xs.take i := by rw [List.take_append_of_le_length (by omega), List.take_take, Nat.min_self]
 rw [e1]
 have e2 : (xs.take i ++ [y] ++ (xs.take i ++ R).drop (i + [y].length)).take (i + 1) = xs.take i ++ [y] := by
  rw [List.take_append_of_le_length (by simp; omega), List.take_of_length_le (by simp; omega)]
 rw [e2]
 have e3 : ∀ T : List α, xs.take i ++ [y] ++ xs.drop i ++ T = (xs.take i ++ y :: xs.drop i) ++ T := fun T => by simp
 rw [e3, List.take_left]
set_option maxRecDepth 100000 in
set_option maxHeartbeats 8000000 in
theorem insev_any (w : World) (A : Option Addr) (c : Nat) (xs : List EvT) (i vb : Nat) (y : EvT) (h : OwnK evTy w A c xs) (hi : i ≤ xs.length) (hn : xs.length ≤ 100000) (hv : w.heap[vb]? = some (.cells #[.int .i64 y.n, .int .i64 y.s, .string y.p, .int .i64 y.k, .int .i64 y.m, .slice y.A y.l y.c, .slice y.B y.bl y.bc] 30 (0, 0))) (hne : ∀ a, A = some a → a.block ≠ vb) :
  Calls Tryz.prog 170 #[.slice A xs.length c, .int .i64 (i : Int), .slice (some ⟨vb, 0, none⟩) 1 1] w fun r w' => ∃ (A' : Option Addr) (c' : Nat), r = .returned (.slice A' (xs.length + 1) c') ∧ OwnK evTy w' A' c' (xs.take i ++ y :: xs.drop i) ∧ (∀ a, A' = some a → A = some a ∨ w.heap.size ≤ a.block) ∧ ∀ w0 : World, Chg [] w0 w → (∀ a, A = some a → w0.heap.size ≤ a.block) → Chg [] w0 w' := by

 have XR : Hid (RdK evTy w (some ⟨vb, 0, none⟩) 1 [y]) := Lib.hid (rd_oneEc hv)
 have HN : Hid ((xs.length + 1) * 400 ≤ 140737488355327) := Lib.hid (by omega)
 have O := Lib.hid h
 have n1 : ¬ ((1 : Int) = 0) := by decide
 by_cases hil : i = xs.length
 ·
  subst hil
  have NL : Hid ((xs.take xs.length ++ y :: xs.drop xs.length) = xs ++ [y]) := Lib.hid (by simp)
  have e1 : (((xs.length : Int) == (xs.length : Int)) : Bool) = true := by simp
  clear h hi hn hv hne
  go_enter Tryz.func170, Tryz.ntmps170
  go_wp2_with (at_builtin; refine wpList_appK (R := evTy) rfl (.tmp 23) (.tmp 24) rfl rfl (A := A) (n := xs.length) (m := 1) (c := c) (d := 1) (xs := xs) (ys := [y]) O.out rfl rfl XR.out HN.out ?_; intro A9 c9 w9 o9 g9 e9)
  all_goals (
   have O9 := Lib.hid o9
   have E9 := Lib.hid e9
   have G9 := Lib.hid (fun (w0 : World) (h0 : Chg [] w0 w) (hA : ∀ a, A = some a → w0.heap.size ≤ a.block) => (fresh_appE (w2 := w0) hA h0 g9 e9).2)
   clear o9 g9 e9; go_wp2; go_ret
   refine ⟨A9, c9, rfl, (by first | exact O9.out | (rw [NL.out]; exact O9.out)), (fun a ha => E9.out.elim (fun q => .inl (q ▸ ha)) (fun q => .inr (by rw [q] at ha; cases ha; exact Nat.le_refl _))), G9.out⟩)
 ·
  obtain ⟨g, full, rfl, hg, hfl, hcm, hnc, hft⟩ : ∃ (g : Nat) (full : List EvT), A = some ⟨g, 0, none⟩ ∧ w.heap[g]? = some (.cells (evTy.flat full).toArray 30 (0, 0)) ∧ full.length = c ∧ c ≤ maxLen ∧ xs.length ≤ c ∧ full.take xs.length = xs := by
   rcases h with ⟨_, q, _⟩ | q
   ·
    subst q
    have : i = 0 := by simpa using hi
    exact absurd this hil
   ·
    exact q
  have k7 : evTy.k = 7 := rfl
  have gv : g ≠ vb := hne _ rfl
  have lg := lt_of_heap hg
  have lv := lt_of_heap hv
  have i0 : (0 : Int) ≤ (i : Int) := by omega
  have i1 : (i : Int) ≤ (xs.length : Int) := by omega
  have i2 : i ≤ xs.length := hi
  have e1 : (((i : Int) == (xs.length : Int)) : Bool) = false := by simp; omega
  have e2 : ¬ (i : Int) = (xs.length : Int) := by omega
  have w1 : IntKind.i64.wrap ((xs.length : Int) + 1) = ((xs.length + 1 : Nat) : Int) := by rw [IntWalk.i64_in _ (by omega)]; omega
  have w2 : IntKind.i64.wrap ((i : Int) + 1) = ((i + 1 : Nat) : Int) := by rw [IntWalk.i64_in _ (by omega)]; omega
  have DR : Hid (RdK evTy w (some ⟨g, i * 7, none⟩) (xs.length - i) (xs.drop i)) := Lib.hid (by
   have q := (h.reads).part i (xs.length - i) (by omega)
   rw [List.take_of_length_le (by rw [List.length_drop]; omega), Nat.zero_add] at q
   exact q)
  by_cases hr : xs.length + 1 ≤ c
  ·
   have HOV : ∀ lb cb, (callFunc 219 #[.slice (some ⟨vb, 0, none⟩) 1 1, .slice (some ⟨g, (i + 1) * 7, none⟩) lb cb]).run Tryz.prog w = .ok (.value (.bool false)) w := fun lb cb => by
    have ho := run_overlaps_apart (P := Tryz.prog) w 22 4 30 Tryz.underlying22 7 (fun w => by first | rfl | kernel_rfl) ⟨vb, 0, none⟩ ⟨g, (i + 1) * 7, none⟩ 1 1 lb cb (fun e => gv e.symm) 30 30 7 (c * 7) (by simp [World.shape?, hv]) (by simp [World.shape?, hg, evTy.flat_len, hfl, k7]) (by omega) (by simp [World.frozen?, hv]) (by simp [World.frozen?, hv])
    rw [run_callFunc_extern (e := Extern.SlicesOverlaps.overlaps #[22, 22] #[4]) Tryz.func219 (by kernel_rfl) (by kernel_rfl) (by kernel_rfl) (by kernel_rfl), ho]
    rfl
   have b1 : (0 : Int) ≤ ((xs.length + 1 : Nat) : Int) := by omega
   have b2 : ((xs.length + 1 : Nat) : Int) ≤ (c : Int) := by omega
   have b3 : xs.length + 1 ≤ c := by omega
   have b4 : ((i + 1 : Nat) : Int) ≤ ((xs.length + 1 : Nat) : Int) := by omega
   have b5 : i + 1 ≤ xs.length + 1 := by omega
   have b6 : ¬ c = i + 1 := by omega
   have b7 : ¬ c = i := by omega
   have b8 : (0 : Int) ≤ ((i + 1 : Nat) : Int) := by omega
   have b9 : ¬ (c : Int) < ((xs.length + 1 : Nat) : Int) := by omega
   have b10 : (i : Int) ≤ ((xs.length + 1 : Nat) : Int) := by omega
   have b11 : i ≤ xs.length + 1 := by omega
   have b12 : (0 : Int) ≤ (i : Int) + 1 := by omega
   have b13 : (i : Int) + 1 ≤ (xs.length : Int) + 1 := by omega
   have b14 : (i : Int) ≤ (xs.length : Int) + 1 := by omega
   have FG := Lib.hid hg
   have FL := Lib.hid hfl
   have FC := Lib.hid hcm
   have FN := Lib.hid hnc
   have FT := Lib.hid hft
   have VB := Lib.hid hv
   have GV := Lib.hid gv
   clear h hi hn hv hne hg hfl hcm hnc hft gv lg lv O
   go_enter Tryz.func170, Tryz.ntmps170
   go_upto_region 14 with fail
   go_wp2_with (simp only [HOV])
   clear HOV
   obtain ⟨F1, hF1⟩ : ∃ F1, F1 = full.take (i + 1) ++ xs.drop i ++ full.drop (i + 1 + (xs.drop i).length) := ⟨_, rfl⟩
   have HCP : ∀ W, Chg [] w W → ∀ ty dc sc, (Builtin.copy_ #[22, 22] ty #[.slice (some ⟨g, (i + 1) * 7, none⟩) (xs.length - i) dc, .slice (some ⟨g, i * 7, none⟩) (xs.length + 1 - i) sc]).run Tryz.prog W = .ok (goInt (xs.drop i).length) (W.setRow g (evTy.flat F1).toArray) := fun W hW ty dc sc => by
    have q := run_copyK (R := evTy) W ty (g := g) (off := i + 1) (dLen := xs.length - i) (dCap := dc) (sLen := xs.length + 1 - i) (sCap := sc) (B := some ⟨g, i * 7, none⟩) (ys := xs.drop i) (full := full) (hW.at_ FG.out (by simp)) (by have := DR.out.chg hW (by simp); rw [List.length_drop]; exact this) (by rw [List.length_drop]; simp only [Nat.min_def]; split <;> omega) (by rw [List.length_drop, FL.out]; omega)
    rw [← hF1] at q
    exact q
   have L1 : Hid (F1.length = c) := Lib.hid (by rw [hF1]; have := FL.out; simp; omega)
   have HC2 : ∀ W, W.heap[g]? = some (.cells (evTy.flat F1).toArray 30 (0, 0)) → RdK evTy W (some ⟨vb, 0, none⟩) 1 [y] → ∀ ty dc, (Builtin.copy_ #[22, 22] ty #[.slice (some ⟨g, i * 7, none⟩) (xs.length + 1 - i) dc, .slice (some ⟨vb, 0, none⟩) 1 1]).run Tryz.prog W = .ok (goInt ([y] : List EvT).length) (W.setRow g (evTy.flat (F1.take i ++ [y] ++ F1.drop (i + [y].length))).toArray) := fun W hg hv ty dc =>
    run_copyK (R := evTy) W ty (g := g) (off := i) (dLen := xs.length + 1 - i) (dCap := dc) (sLen := 1) (sCap := 1) (B := some ⟨vb, 0, none⟩) (ys := [y]) (full := F1) hg hv (by simp only [Nat.min_def, List.length_singleton]; split <;> omega) (by rw [L1.out]; simp; omega)
   have FIN : Hid ((F1.take i ++ [y] ++ F1.drop (i + [y].length)).take (xs.take i ++ y :: xs.drop i).length = xs.take i ++ y :: xs.drop i) := Lib.hid (by rw [hF1]; exact ins_row1 FT.out (by omega))
   have LNI : Hid ((xs.take i ++ y :: xs.drop i).length = xs.length + 1) := Lib.hid (by simp; omega)
   obtain ⟨F2, hF2⟩ : ∃ F2, F2 = F1.take i ++ [y] ++ F1.drop (i + [y].length) := ⟨_, rfl⟩
   have L2 : Hid (F2.length = c) := Lib.hid (by rw [hF2]; have := L1.out; simp; omega)
   rw [← hF2] at FIN
   simp only [← hF2] at HC2
   clear hF1 hF2

   refine wp_region_held_drew (S := fun w' => True) (by kernel_rfl) trivial (fun hHeld => ?_)
   have hHeld := trivial
   refine sy 0 69 rfl rfl ?_ (hS := trivial)
   try simp only [Act.put, sA, s0, s1]
   refine sy 1 70 rfl rfl ?_ (hS := trivial)
   try simp only [Act.put, sA, s0, s1]
   refine sy 2 71 rfl rfl ?_ (hS := trivial)
   try simp only [Act.put, sA, s0, s1]
   refine sy 3 72 rfl rfl ?_ (hS := trivial)
   try simp only [Act.put, sA, s0, s1]
   refine sy 4 73 rfl rfl ?_ (hS := trivial)
   try simp only [Act.put, sA, s0, s1]
   refine sy 5 74 rfl rfl ?_ (hS := trivial)
   try simp only [Act.put, sA, s0, s1]
   refine sy 6 75 rfl rfl ?_ (hS := trivial)
   try simp only [Act.put, sA, s0, s1]
   refine sy 7 76 rfl rfl ?_ (hS := trivial)
   try simp only [Act.put, sA, s0, s1]
   refine wpAnyH_ready (rs := [8]) (by kernel_rfl) (by simp) ?_; refine AllReadyH.cons rfl (fun K hK => ?_) AllReadyH.nil; replace hK := Lib.hid hK
   refine step_copyR rfl (.tmp 73) (.tmp 76) 22 22 rfl (.slice (some ⟨g, (i + 1) * 7, none⟩) (xs.length - i) (c - (i + 1))) (.slice (some ⟨g, i * 7, none⟩) (xs.length + 1 - i) (c - i)) rfl rfl (HCP _ ((Chg.refl [] w).drew) _ _ _) ?_
   go_simp
   have K1 := setRow_heap w.drew g _ (evTy.flat F1).toArray _ _ (((Chg.refl [] w).drew).at_ FG.out (by simp))
   have C1 : Chg [g] w (w.drew.setRow g (evTy.flat F1).toArray) := ((Chg.refl [] w).drew.mono (by simp)).trans ⟨rfl, rfl, rfl, by simp, fun j hj hn => setRow_other w.drew g j _ (by simpa using hn)⟩
   generalize w.drew.setRow g (evTy.flat F1).toArray = w2 at *
   refine hK.out _ _ trivial (fun hHeld => ?_)
   clear hK K; try simp only [Act.put, sA, s0, s1]
   refine wpAnyH_done (by kernel_rfl) ?_ _; clear hHeld HCP
   have V2 : RdK evTy w2 (some ⟨vb, 0, none⟩) 1 [y] := XR.out.chg C1 (fun a ha => by cases ha; simpa using fun e => GV.out e.symm)
   have HC3 := HC2 w2 K1 V2
   have K2 := Lib.hid (setRow_heap w2 g _ (evTy.flat F2).toArray _ _ K1)
   have C2 : Hid (Chg [g] w (w2.setRow g (evTy.flat F2).toArray)) := Lib.hid (C1.trans ⟨rfl, rfl, rfl, by simp, fun j hj hn => setRow_other w2 g j _ (by simpa using hn)⟩)
   have C1H := Lib.hid C1
   clear HC2 K1 V2 C1
   go_wp2_with (first | (at_builtin; refine wpList_copyR _ rfl (.tmp 80) (.tmp 81) 22 22 rfl (.slice (some ⟨g, i * 7, none⟩) (xs.length + 1 - i) (c - i)) (.slice (some ⟨vb, 0, none⟩) 1 1) rfl rfl (HC3 _ _) ?_) | (with_reducible refine wpList_copyR _ rfl (.tmp 80) (.tmp 81) 22 22 rfl (.slice (some ⟨g, i * 7, none⟩) (xs.length + 1 - i) (c - i)) (.slice (some ⟨vb, 0, none⟩) 1 1) rfl rfl (HC3 _ _) ?_))
   go_ret
   refine ⟨some ⟨g, 0, none⟩, c, rfl, OwnK.of K2.out (by rw [LNI.out]; exact b3) FC.out L2.out FIN.out, fun a ha => .inl ha, fun w0 h0 hA => h0.trans' C2.out (fun j hj => by simp at hj; subst hj; exact .inr (hA _ rfl))⟩
  ·
   obtain ⟨i0', hi0, hz0, hz1, hz2⟩ := info_parts evTy.info
   have HRZ0 := run_append_grow_zeros (P := Tryz.prog) w 22 3 0 30 i0' evTy.zv .i64 .i64 evTy.under (by first | rfl | kernel_rfl) hi0 hz0 (some ⟨g, 0, none⟩) i c (evTy.flat (xs.take i)) (run_firstCells_some (P := Tryz.prog) w.drew i0'.size i ⟨g, 0, none⟩ i c (evTy.flat (xs.take i)) (by rw [hz1, evTy.flat_len, List.length_take, Nat.min_eq_left (by omega)]) (fun j v hj => by
    have q := ((h.take i).chg (Chg.refl [] w).drew (by simp)).reads.cells j v hj
    obtain ⟨a, e, q⟩ := q
    cases e
    exact q)) (xs.length + 1 - i) (by omega) (by rw [hz1, k7]; omega) (by omega) (by omega) (by rw [hz2]; have : evTy.bytes ≤ 200 := evTy.bpos; have := Nat.mul_le_mul_left (xs.length + 1 - i) this; omega) (growslice_fits (by omega) (by rw [hz2]; have : evTy.bytes ≤ 200 := evTy.bpos; have := Nat.mul_le_mul_left (i + (xs.length + 1 - i)) this; omega))
   rw [show i + (xs.length + 1 - i) = xs.length + 1 by omega] at HRZ0
   obtain ⟨G, hG⟩ : ∃ G, G = grownCap w (xs.length + 1) c 30 := ⟨_, rfl⟩
   have GE : xs.length + 1 ≤ G := by rw [hG]; exact grownCap_ge w _ _ _
   have GM : G ≤ maxLen := by rw [hG]; exact grownCap_le_maxLen w _ _ _ (by unfold maxLen; omega)
   obtain ⟨R, hR⟩ : ∃ R, R = List.replicate (xs.length + 1 - i) evTy.z ++ List.replicate (G - (xs.length + 1)) evTy.z := ⟨_, rfl⟩
   have LR : xs.length + 1 - i ≤ R.length := by rw [hR]; simp
   have hrow : (evTy.flat (xs.take i)).toArray ++ Builtin.zeroCells evTy.zv.cells (xs.length + 1 - i) ++ Builtin.zeroCells evTy.zv.cells (G - (xs.length + 1)) = (evTy.flat (xs.take i ++ R)).toArray := by
    rw [hR, evTy.zeros, evTy.zeros, evTy.flat_app, evTy.flat_app]
    simp
   rw [← hG, hrow] at HRZ0
   have L0 : (xs.take i ++ R).length = G := by rw [hR]; simp; omega
   have hwr : IntKind.i64.wrap ((((xs.length + 1 : Nat) : Int)) - (i : Int)) = ((xs.length + 1 - i : Nat) : Int) := by rw [IntWalk.i64_in _ (by omega)]; omega
   have hwr2 : IntKind.i64.wrap ((xs.length : Int) + 1 - (i : Int)) = ((xs.length + 1 - i : Nat) : Int) := by rw [IntWalk.i64_in _ (by omega)]; omega
   have HRZ : ∀ ty, (Builtin.append_ #[22, 3] ty #[.slice (some ⟨g, 0, none⟩) i c, .int .i64 ((xs.length + 1 - i : Nat) : Int)]).run Tryz.prog w = .ok (.slice (some ⟨w.heap.size, 0, none⟩) (xs.length + 1) G) (w.drew.alloc (.cells (evTy.flat (xs.take i ++ R)).toArray 30)) := fun ty => HRZ0
   clear HRZ0 hrow hG hR hi0 hz0 hz1 hz2
   obtain ⟨w1, hw1, c1, q1⟩ : ∃ w1, w.drew.alloc (.cells (evTy.flat (xs.take i ++ R)).toArray 30) = w1 ∧ Chg [] w w1 ∧ w1.heap[w.heap.size]? = some (.cells (evTy.flat (xs.take i ++ R)).toArray 30 (0, 0)) := ⟨_, rfl, (Chg.refl [] w).drew.alloc _, heap_alloc_new w.drew _⟩
   simp only [hw1] at HRZ
   obtain ⟨g2, hg2⟩ : ∃ g2, w.heap.size = g2 := ⟨_, rfl⟩
   rw [hg2] at q1
   simp only [hg2] at HRZ
   have G2 : g2 ≠ g := by omega
   have G3 : g2 ≠ vb := by omega
   obtain ⟨F1, hF1⟩ : ∃ F1, F1 = (xs.take i ++ R).take i ++ [y] ++ (xs.take i ++ R).drop (i + [y].length) := ⟨_, rfl⟩
   obtain ⟨F2, hF2⟩ : ∃ F2, F2 = F1.take (i + 1) ++ xs.drop i ++ F1.drop (i + 1 + (xs.drop i).length) := ⟨_, rfl⟩
   have L1 : F1.length = G := by rw [hF1]; simp at L0 ⊢; omega
   have L2 : F2.length = G := by rw [hF2]; simp; omega
   have HC1 : ∀ ty dc, (Builtin.copy_ #[22, 22] ty #[.slice (some ⟨g2, i * 7, none⟩) (xs.length + 1 - i) dc, .slice (some ⟨vb, 0, none⟩) 1 1]).run Tryz.prog w1 = .ok (goInt ([y] : List EvT).length) (w1.setRow g2 (evTy.flat F1).toArray) := fun ty dc => by
    have q := run_copyK (R := evTy) w1 ty (g := g2) (off := i) (dLen := xs.length + 1 - i) (dCap := dc) (sLen := 1) (sCap := 1) (B := some ⟨vb, 0, none⟩) (ys := [y]) (full := xs.take i ++ R) q1 (XR.out.chg c1 (by simp)) (by simp only [Nat.min_def, List.length_singleton]; split <;> omega) (by rw [L0]; simp; omega)
    rw [← hF1] at q
    exact q
   have k1 := setRow_heap w1 g2 _ (evTy.flat F1).toArray _ _ q1
   have C1 : Chg [g2] w1 (w1.setRow g2 (evTy.flat F1).toArray) := ⟨rfl, rfl, rfl, by simp, fun j hj hn => setRow_other w1 g2 j _ (by simpa using hn)⟩
   generalize w1.setRow g2 (evTy.flat F1).toArray = w2 at *
   have HC2 : ∀ W, Chg [] w2 W → ∀ ty dc sc, (Builtin.copy_ #[22, 22] ty #[.slice (some ⟨g2, (i + 1) * 7, none⟩) (xs.length - i) dc, .slice (some ⟨g, i * 7, none⟩) (xs.length - i) sc]).run Tryz.prog W = .ok (goInt (xs.drop i).length) (W.setRow g2 (evTy.flat F2).toArray) := fun W hW ty dc sc => by
    have q := run_copyK (R := evTy) W ty (g := g2) (off := i + 1) (dLen := xs.length - i) (dCap := dc) (sLen := xs.length - i) (sCap := sc) (B := some ⟨g, i * 7, none⟩) (ys := xs.drop i) (full := F1) (hW.at_ k1 (by simp)) (by have := ((DR.out.chg c1 (by simp)).chg C1 (fun a ha => by cases ha; simpa using fun e => G2 e.symm)).chg hW (by simp); rw [List.length_drop]; exact this) (by rw [List.length_drop]; simp only [Nat.min_def]; split <;> omega) (by rw [List.length_drop, L1]; omega)
    rw [← hF2] at q
    exact q
   have FIN : Hid (F2.take (xs.take i ++ y :: xs.drop i).length = xs.take i ++ y :: xs.drop i) := Lib.hid (by rw [hF2, hF1]; exact ins_row2 (by omega) LR)
   have LNI : Hid ((xs.take i ++ y :: xs.drop i).length = xs.length + 1) := Lib.hid (by simp; omega)
   have K1 := Lib.hid k1
   have L2H := Lib.hid L2
   have C12 : Hid (Chg [g2] w w2) := Lib.hid ((c1.mono (by simp)).trans C1)
   have HG2 := Lib.hid hg2
   have GMH := Lib.hid GM
   have b1 : (0 : Int) ≤ (i : Int) + 1 := by omega
   have b2 : (i : Int) + 1 ≤ (xs.length : Int) + 1 := by omega
   have b3 : (i : Int) ≤ (xs.length : Int) + 1 := by omega
   have b4 : (c : Int) < ((xs.length + 1 : Nat) : Int) := by omega
   have b5 : (c : Int) < (xs.length : Int) + 1 := by omega
   have b6 : ¬ c = i := by omega
   have b7 : ¬ G = i := by omega
   have b8 : ¬ G = i + 1 := by omega
   have b9 : i ≤ c := by omega
   have b10 : (i : Int) ≤ (c : Int) := by omega
   clear hF1 hF2 k1 C1 c1 q1 hw1 hg2 GM L0 L1 L2 LR h hi hn hv hne hg hfl hcm hft gv lg lv O G2 G3 hwr
   go_enter Tryz.func170, Tryz.ntmps170
   go_wp2_with (first | (at_builtin; refine wpList_append_run _ rfl (.tmp 34) (.tmp 39) 22 3 rfl _ _ rfl rfl _ _ (HRZ _) ?_) | (at_builtin; refine wpList_copyR _ rfl (.tmp 43) (.tmp 44) 22 22 rfl (.slice (some ⟨g2, i * 7, none⟩) (xs.length + 1 - i) (G - i)) (.slice (some ⟨vb, 0, none⟩) 1 1) rfl rfl (HC1 _ _) ?_))
   clear HRZ HC1
   refine wp_region_held_drew (S := fun w' => True) (by kernel_rfl) trivial (fun hHeld => ?_)
   have hHeld := trivial
   refine sy 0 46 rfl rfl ?_ (hS := trivial)
   try simp only [Act.put, sA, s0, s1]
   refine sy 1 47 rfl rfl ?_ (hS := trivial)
   try simp only [Act.put, sA, s0, s1]
   refine sy 2 48 rfl rfl ?_ (hS := trivial)
   try simp only [Act.put, sA, s0, s1]
   refine sy 3 49 rfl rfl ?_ (hS := trivial)
   try simp only [Act.put, sA, s0, s1]
   refine sy 4 50 rfl rfl ?_ (hS := trivial)
   try simp only [Act.put, sA, s0, s1]
   refine sy 5 51 rfl rfl ?_ (hS := trivial)
   try simp only [Act.put, sA, s0, s1]
   refine sy 6 52 rfl rfl ?_ (hS := trivial)
   try simp only [Act.put, sA, s0, s1]
   refine sy 7 53 rfl rfl ?_ (hS := trivial)
   try simp only [Act.put, sA, s0, s1]
   refine wpAnyH_ready (rs := [8]) (by kernel_rfl) (by simp) ?_; refine AllReadyH.cons rfl (fun K hK => ?_) AllReadyH.nil; replace hK := Lib.hid hK
   refine step_copyR rfl (.tmp 50) (.tmp 53) 22 22 rfl (.slice (some ⟨g2, (i + 1) * 7, none⟩) (xs.length - i) (G - (i + 1))) (.slice (some ⟨g, i * 7, none⟩) (xs.length - i) (c - i)) rfl rfl (HC2 _ ((Chg.refl [] w2).drew) _ _ _) ?_
   go_simp
   have K2 := setRow_heap w2.drew g2 _ (evTy.flat F2).toArray _ _ (((Chg.refl [] w2).drew).at_ K1.out (by simp))
   have C2 : Chg [g2] w (w2.drew.setRow g2 (evTy.flat F2).toArray) := (C12.out.trans ((Chg.refl [] w2).drew.mono (by simp))).trans ⟨rfl, rfl, rfl, by simp, fun j hj hn => setRow_other w2.drew g2 j _ (by simpa using hn)⟩
   generalize w2.drew.setRow g2 (evTy.flat F2).toArray = w3 at *
   refine hK.out _ _ trivial (fun hHeld => ?_)
   clear hK K; try simp only [Act.put, sA, s0, s1]
   refine wpAnyH_done (by kernel_rfl) ?_ _; clear hHeld HC2
   have K3 := Lib.hid K2
   have C3 := Lib.hid C2
   have GEH := Lib.hid GE
   clear K2 C2 C12 K1; go_wp2; go_ret
   refine ⟨some ⟨g2, 0, none⟩, G, rfl, OwnK.of K3.out (by rw [LNI.out]; exact GEH.out) GMH.out L2H.out FIN.out, fun a ha => .inr (by cases ha; rw [HG2.out]; exact Nat.le_refl _), fun w0 h0 hA => h0.trans' C3.out (fun j hj => by simp at hj; subst hj; exact .inr (by rw [← HG2.out]; exact h0.size))⟩
end
section
open Go.RowKit Go.Lib


set_option maxRecDepth 100000 in
set_option maxHeartbeats 8000000 in
theorem copyevs_new (w : World) (A : Option Addr) (c : Nat) (xs : List EvT) (es : List EvP) (h : RdK evTy w A xs.length xs) (hx : EvsR w xs es) (hn : xs.length ≤ 100000) (hq : ∀ e ∈ es, e.b.length ≤ 140737488351232 ∧ e.q.length ≤ 100000) :
  Calls Tryz.prog 9 #[.slice A xs.length c] w fun r w' => ∃ (A' : Option Addr) (c' : Nat) (ys : List EvT), r = .returned (.slice A' ys.length c') ∧ ys.length = xs.length ∧ OwnK evTy w' A' c' ys ∧ EvsR w' ys es ∧ ApartE w' A' ys ∧ (∀ a, A' = some a → w.heap.size ≤ a.block) ∧ (∀ x ∈ ys, ∀ a, (x.A = some a ∨ x.B = some a) → w.heap.size ≤ a.block) ∧ Chg [] w w' := by
 have HA := Lib.hid h
 have HX := Lib.hid hx
 have HN := Lib.hid hn
 have HQ := Lib.hid hq
 clear h hx hn hq
 go_enter Tryz.func9, Tryz.ntmps9
 go_wp2
 go_loopw [3, 4] (fun o i wr => ∃ (k : Nat) (A1 : Option Addr) (d1 : Nat) (ys : List EvT), k ≤ xs.length ∧ ys.length = k ∧ i = .int .i64 k ∧ o = .slice A1 ys.length d1 ∧ Hid (OwnK evTy wr A1 d1 ys) ∧ Hid (EvsR wr ys (es.take k)) ∧ Hid (ApartE wr A1 ys) ∧ Hid (∀ a, A1 = some a → w.heap.size ≤ a.block) ∧ Hid (∀ x ∈ ys, ∀ a, (x.A = some a ∨ x.B = some a) → w.heap.size ≤ a.block) ∧ Hid (Chg [] w wr)) (fun _ i _ => xs.length - (RowKit.intOf i).toNat)
 case atStart => exact ⟨0, none, 0, [], Nat.zero_le _, rfl, rfl, rfl, OwnK.none_ _, Lib.hid (by simpa using EvsR.nil _), Lib.hid (fun x hx => by simp at hx), Lib.hid (by simp), Lib.hid (by simp), Chg.refl _ _⟩
 case round =>
  obtain ⟨k, A1, d1, ys, hk, hyl, rfl, rfl, RO, RE, RA, RN, RW, RC⟩ := hrel
  have i0 : (0 : Int) ≤ (k : Int) := by omega
  by_cases hlt : k < xs.length
  ·
   have i1 : (k : Int) < (xs.length : Int) := by omega
   have i3 : IntKind.i64.wrap ((k : Int) + 1) = (k : Int) + 1 := IntWalk.i64_in _ (by have := HN.out; omega)
   obtain ⟨g, o, eA, _⟩ := HA.out.line (by omega)
   subst eA
   obtain ⟨x, e, ex, ee, rx⟩ := HX.out.at_ hlt
   obtain ⟨z0, z1, z2, z3, z4, z5, z6⟩ := evCells (HA.out.chg RC.out (by simp)) ex
   have RX := Lib.hid rx
   have ET : Hid (es.take (k + 1) = es.take k ++ [e]) := Lib.hid (by rw [List.take_add_one, ee]; rfl)
   have EQ := Lib.hid (HQ.out e (List.mem_of_getElem? ee))
   have YL := Lib.hid hyl
   clear ex ee rx hyl; go_wp2_with fail; clear z0 z1 z2 z3 z4 z5 z6
   refine (copyev_any wr x e (RX.out.chg RC.out) EQ.out).mono ?_
   rintro r w2 ⟨A', c', B', d', rfl, hR, hA, hB, hnA, hnB, hne, hc⟩
   obtain ⟨X, hX⟩ : ∃ X : EvT, X = ⟨x.n, x.s, x.p, x.k, x.m, A', x.l, c', B', x.bl, d'⟩ := ⟨_, rfl⟩
   rw [← hX] at hR
   have fX : X.A = A' ∧ X.B = B' := by rw [hX]; exact ⟨rfl, rfl⟩
   have KA : Hid (∀ a, X.A = some a → a.block < w2.heap.size ∧ wr.heap.size ≤ a.block) := Lib.hid (fun a ha => by rw [fX.1] at ha; exact ⟨hA.lt a ha, hnA a ha⟩)
   have KB : Hid (∀ a, X.B = some a → a.block < w2.heap.size ∧ wr.heap.size ≤ a.block) := Lib.hid (fun a ha => by rw [fX.2] at ha; exact ⟨hB.lt_ a ha, hnB a ha⟩)
   have KC : Hid (X.bl ≤ X.bc ∧ X.bc ≤ maxLen) := Lib.hid (by have q := hB.cap; rw [hX]; show x.bl ≤ d' ∧ d' ≤ maxLen; have := RX.out.bl; exact ⟨by omega, q.2⟩)
   have LA1 := Lib.hid RO.out.lt_
   have WS := Lib.hid RC.out.size
   have XR := Lib.hid hR
   replace RO := Lib.hid (RO.out.chg hc (by simp))
   replace RE := Lib.hid (RE.out.chg hc)
   have S2 := Lib.hid hc.size
   replace RC := Lib.hid (RC.out.trans hc)
   have EX : Hid (Value.agg #[.int .i64 x.n, .int .i64 x.s, .string x.p, .int .i64 x.k, .int .i64 x.m, .slice A' x.l c', .slice B' x.bl d'] = .agg #[.int .i64 X.n, .int .i64 X.s, .string X.p, .int .i64 X.k, .int .i64 X.m, .slice X.A X.l X.c, .slice X.B X.bl X.bc]) := Lib.hid (by rw [hX])
   rw [EX.out]
   clear hR hA hB hnA hnB hne hc hX fX EX
   obtain ⟨w3, hw, hc, b3⟩ := news1 w2 (.cells #[.int .i64 X.n, .int .i64 X.s, .string X.p, .int .i64 X.k, .int .i64 X.m, .slice X.A X.l X.c, .slice X.B X.bl X.bc] 30)
   have W3 := Lib.hid hw
   have R3 := Lib.hid (rd_oneEc b3)
   replace RO := Lib.hid (RO.out.chg hc (by simp))
   replace RE := Lib.hid (RE.out.chg hc)
   replace XR := Lib.hid (XR.out.chg hc)
   have S3 := Lib.hid hc.size
   replace RC := Lib.hid (RC.out.trans hc)
   clear hw hc b3
   have N4 : Hid ((ys.length + 1) * 400 ≤ 140737488355327) := Lib.hid (by have := YL.out; have := HN.out; omega)
   go_wp2_with (at_builtin; rw [← W3.out]; refine wpList_appK (R := evTy) rfl (.tmp 11) (.tmp 17) rfl rfl (A := A1) (n := ys.length) (m := 1) (c := d1) (d := 1) (xs := ys) (ys := [X]) RO.out rfl rfl R3.out N4.out ?_; intro A7 c7 w7 o7 g7 e7; have O7 := Lib.hid o7; have F7 := Lib.hid (fresh_appE RN.out RC.out g7 e7); have G7 := Lib.hid g7; have E7 := Lib.hid e7; clear o7 g7 e7)
   have CG : Hid (Chg (blkOf A1) w3 w7) := Lib.hid ((Chg.refl (blkOf A1) w3).grown G7.out (fun i hi => by
    cases A1 with
    | none => simp at hi
    | some a => simp at hi; subst hi; exact .inl (mem_blkOf rfl)))
   have RE7 : Hid (EvsR w7 (ys ++ [X]) (es.take (k + 1))) := Lib.hid (by
    rw [ET.out]
    refine EvsR.snoc (RE.out.chgS CG.out (fun y hy => ⟨fun a ha q => ?_, fun a ha q => ?_⟩)) (XR.out.chgS CG.out (fun a ha q => ?_) (fun a ha q => ?_))
    ·
     obtain ⟨b, hb, e⟩ := of_blkOf q; exact ((RA.out y hy).1 a ha).2 b hb e.symm
    ·
     obtain ⟨b, hb, e⟩ := of_blkOf q; exact ((RA.out y hy).2.1 a ha).2 b hb e.symm
    ·
     obtain ⟨b, hb, e⟩ := of_blkOf q; have := LA1.out b hb; have := (KA.out a ha).2; omega
    ·
     obtain ⟨b, hb, e⟩ := of_blkOf q; have := LA1.out b hb; have := (KB.out a ha).2; omega)
   have RA7 : Hid (ApartE w7 A7 (ys ++ [X])) := Lib.hid (fun y hy => by
    have s7 := CG.out.size
    have s3 := S3.out
    have s2 := S2.out
    have lo : ∀ a : Addr, a.block < w3.heap.size → (∀ b, A1 = some b → a.block ≠ b.block) → a.block < w7.heap.size ∧ ∀ b, A7 = some b → a.block ≠ b.block := fun a h1 h2 => ⟨by omega, fun b hb => by
     rcases E7.out with q | q
     ·
      rw [q] at hb; exact h2 b hb
     ·
      rw [q] at hb; cases hb; exact Nat.ne_of_lt h1⟩
    rcases List.mem_append.1 hy with r | r
    ·
     exact ⟨fun a ha => lo a (by have := ((RA.out y r).1 a ha).1; omega) ((RA.out y r).1 a ha).2, fun a ha => lo a (by have := ((RA.out y r).2.1 a ha).1; omega) ((RA.out y r).2.1 a ha).2, (RA.out y r).2.2⟩
    ·
     simp at r
     subst r
     exact ⟨fun a ha => lo a (by have := (KA.out a ha).1; omega) (fun b hb => by have := LA1.out b hb; have := (KA.out a ha).2; omega), fun a ha => lo a (by have := (KB.out a ha).1; omega) (fun b hb => by have := LA1.out b hb; have := (KB.out a ha).2; omega), KC.out⟩)
   have RW7 : Hid (∀ x ∈ ys ++ [X], ∀ a, (x.A = some a ∨ x.B = some a) → w.heap.size ≤ a.block) := Lib.hid (fun y hy a ha => by
    have ws := WS.out
    rcases List.mem_append.1 hy with r | r
    ·
     exact RW.out y r a ha
    ·
     simp at r
     subst r
     rcases ha with q | q
     ·
      have := (KA.out a q).2; omega
     ·
      have := (KB.out a q).2; omega)
   clear CG G7 E7 RO RE RA RW; go_wp2; go_round
   case rel => exact ⟨k + 1, A7, c7, ys ++ [X], by omega, by simp [YL.out], by go_num, by simp, O7, RE7, RA7, Lib.hid F7.out.1, RW7, F7.out.2⟩
   case measure => simp [RowKit.intOf]; omega
  ·
   obtain rfl : k = xs.length := by omega
   have i1 : ¬ (xs.length : Int) < (xs.length : Int) := by omega
   have ET : es.take xs.length = es := by rw [HX.out.1]; exact List.take_length
   rw [ET] at RE
   have YL := Lib.hid hyl
   clear hyl ET; go_wp2; go_ret
   exact ⟨A1, d1, ys, rfl, YL.out, RO.out, RE.out, RA.out, RN.out, RW.out, RC.out⟩
end
section
open Go.RowKit Go.Lib


theorem app_ownk {w w6 w7 : World} {B A2 : Option Addr} (hB : ∀ a, B = some a → w.heap.size ≤ a.block) (hC : Chg [] w w6) (d2 : w6.grownBy w7 (B.map (·.block))) (e2 : A2 = B ∨ A2 = some ⟨w6.heap.size, 0, none⟩) : (∀ a, A2 = some a → w.heap.size ≤ a.block) ∧ Chg [] w w7 := by
 refine ⟨?_, hC.grown d2 (fun i hi => ?_)⟩
 ·
  rcases e2 with rfl | rfl
  ·
   exact hB
  ·
   rintro a ⟨⟩; exact hC.size
 ·
  cases B with
  | none => simp at hi
  | some a => simp at hi; subst hi; exact .inr (hB a rfl)
theorem set7_5 {w w0 : World} {z : Nat} {s0 s1 : Nat} {a0 a1 a2 a3 a4 a5 a6 : Value} {T : TypeId} {o : Obj} (v5 : Value) (q0 : w.heap[s0]? = some (.cells #[a0, a1, a2, a3, a4, a5, a6] T (0, 0))) (q1 : w.heap[s1]? = some o) (h : s0 ≠ s1) (hz : z ≤ s0) (C : Chg [] w0 w) (hw0 : w0.heap.size = z) :
  (w.setCell ⟨s0, 5, none⟩ v5).heap[s0]? = some (.cells #[a0, a1, a2, a3, a4, v5, a6] T (0, 0)) ∧ (w.setCell ⟨s0, 5, none⟩ v5).heap[s1]? = some o ∧ Chg [] w0 (w.setCell ⟨s0, 5, none⟩ v5) := by
 have p0 := heap_setCell_same _ s0 5 _ _ v5 q0
 refine ⟨p0, ?_, ?_⟩
 ·
  rw [Below.heap_setCell _ _ _ _ (by simp; exact fun e => h e.symm)]
  exact q1
 ·
  exact (C.put (by omega) 5 v5)

set_option maxRecDepth 100000 in
set_option maxHeartbeats 8000000 in
theorem ksown_any (w : World) (x : EvT) (e : EvP) (h : EvR w x e) (hs : e.b.length ≤ 140737488351232 ∧ e.q.length ≤ 100000) :
  Calls Tryz.prog 176 #[.agg #[.int .i64 x.n, .int .i64 x.s, .string x.p, .int .i64 x.k, .int .i64 x.m, .slice x.A x.l x.c, .slice x.B x.bl x.bc]] w fun r w' => ∃ A' c' B' d', r = .returned (.agg #[.int .i64 x.n, .int .i64 x.s, .string x.p, .int .i64 x.k, .int .i64 x.m, .slice A' x.l c', .slice B' x.bl d']) ∧ EvR w' ⟨x.n, x.s, x.p, x.k, x.m, A', x.l, c', B', x.bl, d'⟩ e ∧ OwnB w' A' c' e.b ∧ OwnK spanTy w' B' d' e.q ∧ (∀ a, A' = some a → w.heap.size ≤ a.block) ∧ (∀ a, B' = some a → w.heap.size ≤ a.block) ∧ (∀ a b, A' = some a → B' = some b → a.block ≠ b.block) ∧ Chg [] w w' := by
 obtain ⟨w2, hw, hc, b0, b1⟩ := news2 w (.cells #[.int .i64 x.n, .int .i64 x.s, .string x.p, .int .i64 x.k, .int .i64 x.m, .slice x.A x.l x.c, .slice x.B x.bl x.bc] 30) (.cells #[.int .i64 0, .int .i64 0, .string ⟨#[]⟩, .int .i64 0, .int .i64 0, .slice none 0 0, .slice none 0 0] 30)
 have W2 := Lib.hid hw
 have HR := Lib.hid (h.chg hc)
 have HR0 := Lib.hid h
 have C := Lib.hid hc
 have HS := Lib.hid hs
 obtain ⟨g0, hg0⟩ : ∃ g, w.heap.size = g := ⟨_, rfl⟩
 obtain ⟨g1, hg1⟩ : ∃ g, w.heap.size + 1 = g := ⟨_, rfl⟩
 have SZ := Lib.hid hg0
 have S1 := Lib.hid hg1
 rw [hg0] at b0
 rw [hg1] at b1
 have B0 := Lib.hid b0
 have B1 := Lib.hid b1
 have L0 := Lib.hid (lt_of_heap b0)
 have L1 := Lib.hid (lt_of_heap b1)
 have NEg0 : Hid (g0 ≠ g1) := Lib.hid (by omega)
 have NEg1 : Hid (g1 ≠ g0) := Lib.hid (by omega)
 have LZg0 : Hid (g0 ≤ g0) := Lib.hid (Nat.le_refl _)
 have LZg1 : Hid (g0 ≤ g1) := Lib.hid (by omega)
 clear hw hc b0 b1 h hs hg0 hg1
 go_enter Tryz.func176, Tryz.ntmps176
 go_upto_region 1 with fail
 rw [← W2.out, S1.out, SZ.out]
 have z0 := cell_of B0.out 0
 have fz0 := free_of B0.out 0
 have z1 := cell_of B0.out 1
 have fz1 := free_of B0.out 1
 have z2 := cell_of B0.out 2
 have fz2 := free_of B0.out 2
 have z3 := cell_of B0.out 3
 have fz3 := free_of B0.out 3
 have z4 := cell_of B0.out 4
 have fz4 := free_of B0.out 4
 have z5 := cell_of B0.out 5
 have fz5 := free_of B0.out 5
 have z6 := cell_of B0.out 6
 have fz6 := free_of B0.out 6
 simp only [List.getElem?_toArray, List.getElem?_cons_succ, List.getElem?_cons_zero] at z0 z1 z2 z3 z4 z5 z6
 obtain ⟨wb, hwb, cb, bb⟩ := news1 w2 (.cells #[] 5)
 have WB := Lib.hid hwb
 have OB := Lib.hid (show OwnB wb (some ⟨w2.heap.size, 0, none⟩) 0 [] from .of (full := []) bb (Nat.zero_le _) (Nat.zero_le _) rfl rfl)
 have RB := Lib.hid (HR.out.A.chg cb (by simp))
 have CB := Lib.hid cb
 have BD : Hid (0 + x.l ≤ 140737488355327) := Lib.hid (by have := HS.out.1; rw [HR.out.l]; omega)
 have zb := cell_of (cb.at_ B0.out (by simp)) 5
 simp only [List.getElem?_toArray, List.getElem?_cons_succ, List.getElem?_cons_zero] at zb
 clear hwb cb bb
 go_upto_region 2 with (first | (at_builtin; refine wpList_app rfl (.tmp 3) (.tmp 6) rfl rfl OB.out rfl rfl RB.out BD.out ?_; intro A3 c3 w3 o3 g3 e3; have h3 : OwnB w3 A3 c3 e.b ∧ (∀ a, A3 = some a → w2.heap.size ≤ a.block) ∧ Chg [] w2 w3 := ⟨by simpa using o3, app_ownk (fun a ha => by cases ha; exact Nat.le_refl _) CB.out g3 e3⟩; have b3 := h3.2.2.at_ B0.out (by simp); have zz := cell_of b3 5; have ff := free_of b3 5; simp only [List.getElem?_toArray, List.getElem?_cons_succ, List.getElem?_cons_zero] at zz; clear b3; clear o3 g3 e3 WB OB RB CB BD zb; rw [Nat.zero_add]) | rw [← WB.out])
 clear z0 z1 z2 z3 z4 z5 z6 fz0 fz1 fz2 fz3 fz4 fz5 fz6
 replace B0 := Lib.hid (h3.2.2.at_ B0.out (by simp))
 replace B1 := Lib.hid (h3.2.2.at_ B1.out (by simp))
 have O3 := Lib.hid h3.1
 have N3 := Lib.hid h3.2.1
 have S2 := Lib.hid C.out.size
 have LB : Hid (w2.heap.size ≤ w3.heap.size) := Lib.hid h3.2.2.size
 replace C := Lib.hid (C.out.trans h3.2.2)
 have LT3 : Hid (∀ a, A3 = some a → a.block ≠ g0 ∧ a.block ≠ g1) := Lib.hid (fun a ha => by
  have q := N3.out a ha
  have r0 := L0.out
  have r1 := L1.out
  omega)
 have LX3 : Hid (∀ a, A3 = some a → a.block < w3.heap.size) := Lib.hid (fun a ha => by
  obtain ⟨g, hg⟩ : ∃ g, a.block = g := ⟨_, rfl⟩
  rcases O3.out with ⟨q, _⟩ | ⟨g, full, q, hh, _⟩
  ·
   rw [q] at ha; cases ha
  ·
   rw [q] at ha; cases ha; exact lt_of_heap hh)
 clear h3
 have z0 := cell_of B0.out 0
 have fz0 := free_of B0.out 0
 have z1 := cell_of B0.out 1
 have fz1 := free_of B0.out 1
 have z2 := cell_of B0.out 2
 have fz2 := free_of B0.out 2
 have z3 := cell_of B0.out 3
 have fz3 := free_of B0.out 3
 have z4 := cell_of B0.out 4
 have fz4 := free_of B0.out 4
 have z5 := cell_of B0.out 5
 have fz5 := free_of B0.out 5
 have z6 := cell_of B0.out 6
 have fz6 := free_of B0.out 6
 simp only [List.getElem?_toArray, List.getElem?_cons_succ, List.getElem?_cons_zero] at z0 z1 z2 z3 z4 z5 z6
 clear zz ff; clear z0 z1 z2 z3 z4 z5 z6 fz0 fz1 fz2 fz3 fz4 fz5 fz6
 obtain ⟨p0, p1, p2⟩ := set7_5 (.slice A3 x.l c3) B0.out B1.out NEg0.out LZg0.out C.out SZ.out
 generalize hW : (w3.setCell ⟨g0, 5, none⟩ (.slice A3 x.l c3)) = w4 at *
 have O4 := Lib.hid (O3.out.chg (S := [g0]) (hW ▸ (Chg.refl [g0] w3).put' 5 _) (fun a ha => by simp; exact (LT3.out a ha).1))
 replace B0 := Lib.hid p0
 replace B1 := Lib.hid p1
 have LW : Hid (w3.heap.size ≤ w4.heap.size) := Lib.hid (by rw [← hW]; simp [World.setCell])
 replace C := Lib.hid p2
 have RBp := Lib.hid (HR0.out.B.chg C.out (by simp))
 clear p0 p1 p2 hW O3
 have z0 := cell_of B0.out 0
 have fz0 := free_of B0.out 0
 have z1 := cell_of B0.out 1
 have fz1 := free_of B0.out 1
 have z2 := cell_of B0.out 2
 have fz2 := free_of B0.out 2
 have z3 := cell_of B0.out 3
 have fz3 := free_of B0.out 3
 have z4 := cell_of B0.out 4
 have fz4 := free_of B0.out 4
 have z5 := cell_of B0.out 5
 have fz5 := free_of B0.out 5
 have z6 := cell_of B0.out 6
 have fz6 := free_of B0.out 6
 simp only [List.getElem?_toArray, List.getElem?_cons_succ, List.getElem?_cons_zero] at z0 z1 z2 z3 z4 z5 z6
 obtain ⟨wb, hwb, cb, bb⟩ := news1 w4 (.cells #[] 72)
 have WB := Lib.hid hwb
 have OB := Lib.hid (show OwnK spanTy wb (some ⟨w4.heap.size, 0, none⟩) 0 [] from OwnK.of (full := []) bb (Nat.zero_le _) (Nat.zero_le _) rfl rfl)
 have RB := Lib.hid (RBp.out.chg cb (by simp))
 have CB := Lib.hid cb
 have BD : Hid ((0 + x.bl) * 400 ≤ 140737488355327) := Lib.hid (by have := HS.out.2; rw [HR.out.bl]; omega)
 have zb := cell_of (cb.at_ B0.out (by simp)) 6
 simp only [List.getElem?_toArray, List.getElem?_cons_succ, List.getElem?_cons_zero] at zb
 clear hwb cb bb
 go_upto_region 3 with (first | (at_builtin; refine wpList_appK (R := spanTy) rfl (.tmp 10) (.tmp 12) rfl rfl (A := some ⟨w4.heap.size, 0, none⟩) (n := 0) (m := x.bl) (c := 0) (d := x.bc) (xs := []) (ys := e.q) OB.out rfl rfl RB.out BD.out ?_; intro A5 c5 w5 o5 g5 e5; have h5 : OwnK spanTy w5 A5 c5 e.q := o5; obtain ⟨hN5, hc5⟩ := app_ownk (w := w4) (fun a ha => by cases ha; exact Nat.le_refl _) CB.out g5 e5; have b5 := hc5.at_ B0.out (by simp); have zz := cell_of b5 6; have ff := free_of b5 6; simp only [List.getElem?_toArray, List.getElem?_cons_succ, List.getElem?_cons_zero] at zz; clear b5; clear o5 g5 e5 WB OB RB CB BD zb; rw [Nat.zero_add]) | rw [← WB.out])
 clear z0 z1 z2 z3 z4 z5 z6 fz0 fz1 fz2 fz3 fz4 fz5 fz6
 replace B0 := Lib.hid (hc5.at_ B0.out (by simp))
 replace B1 := Lib.hid (hc5.at_ B1.out (by simp))
 replace O4 := Lib.hid (O4.out.chg hc5 (by simp))
 have P5 := Lib.hid h5
 have N5 : Hid (∀ a, A5 = some a → w3.heap.size ≤ a.block) := Lib.hid (fun a ha => Nat.le_trans LW.out (hN5 a ha))
 replace C := Lib.hid (C.out.trans hc5)
 have LT5 : Hid (∀ a, A5 = some a → a.block ≠ g0 ∧ a.block ≠ g1) := Lib.hid (fun a ha => by
  have q := N5.out a ha
  have r0 := L0.out
  have r1 := L1.out
  have r2 := LB.out
  omega)
 clear h5 hN5 hc5 RBp
 have z0 := cell_of B0.out 0
 have fz0 := free_of B0.out 0
 have z1 := cell_of B0.out 1
 have fz1 := free_of B0.out 1
 have z2 := cell_of B0.out 2
 have fz2 := free_of B0.out 2
 have z3 := cell_of B0.out 3
 have fz3 := free_of B0.out 3
 have z4 := cell_of B0.out 4
 have fz4 := free_of B0.out 4
 have z5 := cell_of B0.out 5
 have fz5 := free_of B0.out 5
 have z6 := cell_of B0.out 6
 have fz6 := free_of B0.out 6
 simp only [List.getElem?_toArray, List.getElem?_cons_succ, List.getElem?_cons_zero] at z0 z1 z2 z3 z4 z5 z6
 clear zz ff; clear z0 z1 z2 z3 z4 z5 z6 fz0 fz1 fz2 fz3 fz4 fz5 fz6
 obtain ⟨p0, p1, p2⟩ := set7_1 (.slice A5 x.bl c5) B0.out B1.out NEg0.out LZg0.out C.out SZ.out
 generalize hW : (w5.setCell ⟨g0, 6, none⟩ (.slice A5 x.bl c5)) = w6 at *
 have O6 := Lib.hid (O4.out.chg (S := [g0]) (hW ▸ (Chg.refl [g0] w5).put' 6 _) (fun a ha => by simp; exact (LT3.out a ha).1))
 have P6 := Lib.hid (P5.out.chg (S := [g0]) (hW ▸ (Chg.refl [g0] w5).put' 6 _) (fun a ha => by simp; exact (LT5.out a ha).1))
 replace B0 := Lib.hid p0
 replace B1 := Lib.hid p1
 replace C := Lib.hid p2
 clear p0 p1 p2 hW O4 P5
 have z0 := cell_of B0.out 0
 have fz0 := free_of B0.out 0
 have z1 := cell_of B0.out 1
 have fz1 := free_of B0.out 1
 have z2 := cell_of B0.out 2
 have fz2 := free_of B0.out 2
 have z3 := cell_of B0.out 3
 have fz3 := free_of B0.out 3
 have z4 := cell_of B0.out 4
 have fz4 := free_of B0.out 4
 have z5 := cell_of B0.out 5
 have fz5 := free_of B0.out 5
 have z6 := cell_of B0.out 6
 have fz6 := free_of B0.out 6
 simp only [List.getElem?_toArray, List.getElem?_cons_succ, List.getElem?_cons_zero] at z0 z1 z2 z3 z4 z5 z6
 have y0 := cell_of B1.out 0
 have fy0 := free_of B1.out 0
 have y1 := cell_of B1.out 1
 have fy1 := free_of B1.out 1
 have y2 := cell_of B1.out 2
 have fy2 := free_of B1.out 2
 have y3 := cell_of B1.out 3
 have fy3 := free_of B1.out 3
 have y4 := cell_of B1.out 4
 have fy4 := free_of B1.out 4
 have y5 := cell_of B1.out 5
 have fy5 := free_of B1.out 5
 have y6 := cell_of B1.out 6
 have fy6 := free_of B1.out 6
 simp only [List.getElem?_toArray, List.getElem?_cons_succ, List.getElem?_cons_zero] at y0 y1 y2 y3 y4 y5 y6
 go_wp2; clear z0 z1 z2 z3 z4 z5 z6 fz0 fz1 fz2 fz3 fz4 fz5 fz6; clear y0 y1 y2 y3 y4 y5 y6 fy0 fy1 fy2 fy3 fy4 fy5 fy6
 obtain ⟨p0, p1, p2⟩ := set7_all (.int .i64 x.n) (.int .i64 x.s) (.string x.p) (.int .i64 x.k) (.int .i64 x.m) (.slice A3 x.l c3) (.slice A5 x.bl c5) B1.out B0.out NEg1.out LZg1.out C.out SZ.out
 generalize hW : (((((((w6.setCell ⟨g1, 0, none⟩ (.int .i64 x.n)).setCell ⟨g1, 1, none⟩ (.int .i64 x.s)).setCell ⟨g1, 2, none⟩ (.string x.p)).setCell ⟨g1, 3, none⟩ (.int .i64 x.k)).setCell ⟨g1, 4, none⟩ (.int .i64 x.m)).setCell ⟨g1, 5, none⟩ (.slice A3 x.l c3)).setCell ⟨g1, 6, none⟩ (.slice A5 x.bl c5)) = w7 at *
 have O7 := Lib.hid (O6.out.chg (S := [g1]) (hW ▸ (((((((Chg.refl [g1] w6).put' 0 _).put' 1 _).put' 2 _).put' 3 _).put' 4 _).put' 5 _).put' 6 _) (fun a ha => by simp; exact (LT3.out a ha).2))
 have P7 := Lib.hid (P6.out.chg (S := [g1]) (hW ▸ (((((((Chg.refl [g1] w6).put' 0 _).put' 1 _).put' 2 _).put' 3 _).put' 4 _).put' 5 _).put' 6 _) (fun a ha => by simp; exact (LT5.out a ha).2))
 replace B1 := Lib.hid p0
 replace C := Lib.hid p2
 clear p0 p1 p2 hW O6 P6
 have y0 := cell_of B1.out 0
 have y1 := cell_of B1.out 1
 have y2 := cell_of B1.out 2
 have y3 := cell_of B1.out 3
 have y4 := cell_of B1.out 4
 have y5 := cell_of B1.out 5
 have y6 := cell_of B1.out 6
 simp only [List.getElem?_toArray, List.getElem?_cons_succ, List.getElem?_cons_zero] at y0 y1 y2 y3 y4 y5 y6
 refine bodyPost_ret (v := .agg #[.int .i64 x.n, .int .i64 x.s, .string x.p, .int .i64 x.k, .int .i64 x.m, .slice A3 x.l c3, .slice A5 x.bl c5]) (by simp [results, Tryz.results176, go_sem, y0, y1, y2, y3, y4, y5, y6]) rfl ?_
 refine ⟨A3, c3, A5, c5, rfl, ⟨HR.out.n, HR.out.s, HR.out.p, HR.out.k, HR.out.m, HR.out.l, HR.out.bl, ?_, ?_⟩, O7.out, P7.out, fun a ha => Nat.le_trans S2.out (N3.out a ha), fun a ha => Nat.le_trans S2.out (Nat.le_trans LB.out (N5.out a ha)), fun a b ha hb => by have := LX3.out a ha; have := N5.out b hb; omega, C.out⟩
 ·
  have := O7.out.reads
  rw [← HR.out.l] at this
  exact this
 ·
  have := P7.out.reads
  rw [← HR.out.bl] at this
  exact this
end
section
open Go.RowKit Go.Lib


theorem box5 {w w0 : World} {z s0 : Nat} {a0 a1 a2 a3 a4 a5 a6 : Value} {T : TypeId} (v5 : Value) (q0 : w.heap[s0]? = some (.cells #[a0, a1, a2, a3, a4, a5, a6] T (0, 0))) (hz : z ≤ s0) (C : Chg [] w0 w) (hw0 : w0.heap.size = z) :
 (w.setCell ⟨s0, 5, none⟩ v5).heap[s0]? = some (.cells #[a0, a1, a2, a3, a4, v5, a6] T (0, 0)) ∧ Chg [] w0 (w.setCell ⟨s0, 5, none⟩ v5) := ⟨heap_setCell_same _ s0 5 _ _ v5 q0, C.put (by omega) 5 v5⟩
theorem box6 {w w0 : World} {z s0 : Nat} {a0 a1 a2 a3 a4 a5 a6 : Value} {T : TypeId} (v6 : Value) (q0 : w.heap[s0]? = some (.cells #[a0, a1, a2, a3, a4, a5, a6] T (0, 0))) (hz : z ≤ s0) (C : Chg [] w0 w) (hw0 : w0.heap.size = z) :
 (w.setCell ⟨s0, 6, none⟩ v6).heap[s0]? = some (.cells #[a0, a1, a2, a3, a4, a5, v6] T (0, 0)) ∧ Chg [] w0 (w.setCell ⟨s0, 6, none⟩ v6) := ⟨heap_setCell_same _ s0 6 _ _ v6 q0, C.put (by omega) 6 v6⟩

set_option maxRecDepth 100000 in
set_option maxHeartbeats 16000000 in
theorem ktown_any (w : World) (A : Option Addr) (c : Nat) (xs : List EvT) (es : List EvP) (h : RdK evTy w A xs.length xs) (hx : EvsR w xs es) (hn : xs.length ≤ 100000) (hs : ∀ e ∈ es, e.b.length ≤ 140737488351232 ∧ e.q.length ≤ 100000) :
  Calls Tryz.prog 52 #[.slice A xs.length c] w fun r w' => ∃ (A' : Option Addr) (c' : Nat) (zs : List EvT), r = .returned (.slice A' zs.length c') ∧ RdK evTy w' A' zs.length zs ∧ EvsR w' zs es ∧ Chg [] w w' := by
 have RR := Lib.hid h
 have RE := Lib.hid hx
 have ZL := Lib.hid hn
 have CQ := Lib.hid hs
 clear h hx hn hs
 go_enter Tryz.func52, Tryz.ntmps52
 go_wp2
 go_loopw [3, 4] (fun o i wq => ∃ (k : Nat) (A2 : Option Addr) (d2 : Nat) (us : List EvT), k ≤ xs.length ∧ us.length = k ∧ i = .int .i64 k ∧ o = .slice A2 us.length d2 ∧ Hid (OwnK evTy wq A2 d2 us) ∧ Hid (EvsR wq us (es.take k)) ∧ Hid (ApartE wq A2 us) ∧ Hid (∀ a, A2 = some a → w.heap.size ≤ a.block) ∧ Hid (Chg [] w wq)) (fun _ i _ => xs.length - (RowKit.intOf i).toNat)
 case atStart => exact ⟨0, none, 0, [], Nat.zero_le _, rfl, rfl, rfl, OwnK.none_ _, Lib.hid (by simpa using EvsR.nil _), Lib.hid (fun x hx => by simp at hx), Lib.hid (by simp), Chg.refl _ _⟩
 case round =>
  obtain ⟨k, A2, d2, us, hk, hyl, rfl, rfl, RO, RU, RA, RN, RC⟩ := hrel
  have i0 : (0 : Int) ≤ (k : Int) := by omega
  by_cases hlt : k < xs.length
  ·
   have i1 : (k : Int) < (xs.length : Int) := by omega
   have i3 : IntKind.i64.wrap ((k : Int) + 1) = (k : Int) + 1 := IntWalk.i64_in _ (by have := ZL.out; omega)
   obtain ⟨g, o, eA, _⟩ := RR.out.line (by omega)
   subst eA
   obtain ⟨x, e, ex, ee, rx⟩ := RE.out.at_ hlt
   obtain ⟨z0, z1, z2, z3, z4, z5, z6⟩ := evCells (RR.out.chg RC.out (by simp)) ex
   have RX := Lib.hid (rx.chg RC.out)
   have ET : Hid (es.take (k + 1) = es.take k ++ [e]) := Lib.hid (by rw [List.take_add_one, ee]; rfl)
   have HS := Lib.hid (CQ.out e (List.mem_of_getElem? ee))
   have YL := Lib.hid hyl
   clear ex ee rx hyl
   obtain ⟨w2, hw, hc, b0⟩ := news1 wr (.cells #[.int .i64 x.n, .int .i64 x.s, .string x.p, .int .i64 x.k, .int .i64 x.m, .slice x.A x.l x.c, .slice x.B x.bl x.bc] 30)
   have W2 := Lib.hid hw
   have HR := Lib.hid (RX.out.chg hc)
   have C := Lib.hid hc
   obtain ⟨g0, hg0⟩ : ∃ g, wr.heap.size = g := ⟨_, rfl⟩
   have SZ := Lib.hid hg0
   rw [hg0] at b0
   have B0 := Lib.hid b0
   have L0 := Lib.hid (lt_of_heap b0)
   have LZg0 : Hid (g0 ≤ g0) := Lib.hid (Nat.le_refl _)
   clear hw hc b0 hg0
   go_upto_region 6 with fail
   rw [← W2.out, SZ.out]
   clear z0 z1 z2 z3 z4 z5 z6 W2
   have z0 := cell_of B0.out 0
   have fz0 := free_of B0.out 0
   have z1 := cell_of B0.out 1
   have fz1 := free_of B0.out 1
   have z2 := cell_of B0.out 2
   have fz2 := free_of B0.out 2
   have z3 := cell_of B0.out 3
   have fz3 := free_of B0.out 3
   have z4 := cell_of B0.out 4
   have fz4 := free_of B0.out 4
   have z5 := cell_of B0.out 5
   have fz5 := free_of B0.out 5
   have z6 := cell_of B0.out 6
   have fz6 := free_of B0.out 6
   simp only [List.getElem?_toArray, List.getElem?_cons_succ, List.getElem?_cons_zero] at z0 z1 z2 z3 z4 z5 z6
   obtain ⟨wb, hwb, cb, bb⟩ := news1 w2 (.cells #[] 5)
   have WB := Lib.hid hwb
   have OB := Lib.hid (show OwnB wb (some ⟨w2.heap.size, 0, none⟩) 0 [] from .of (full := []) bb (Nat.zero_le _) (Nat.zero_le _) rfl rfl)
   have RB := Lib.hid (HR.out.A.chg cb (by simp))
   have CB := Lib.hid cb
   have BD : Hid (0 + x.l ≤ 140737488355327) := Lib.hid (by have := HS.out.1; rw [HR.out.l]; omega)
   have zb := cell_of (cb.at_ B0.out (by simp)) 5
   simp only [List.getElem?_toArray, List.getElem?_cons_succ, List.getElem?_cons_zero] at zb
   clear hwb cb bb
   go_upto_region 7 with (first | (at_builtin; refine wpList_app rfl (.tmp 16) (.tmp 19) rfl rfl OB.out rfl rfl RB.out BD.out ?_; intro A3 c3 w3 o3 g3 e3; have h3 : OwnB w3 A3 c3 e.b ∧ (∀ a, A3 = some a → w2.heap.size ≤ a.block) ∧ Chg [] w2 w3 := ⟨by simpa using o3, app_ownk (fun a ha => by cases ha; exact Nat.le_refl _) CB.out g3 e3⟩; have b3 := h3.2.2.at_ B0.out (by simp); have zz := cell_of b3 5; have ff := free_of b3 5; simp only [List.getElem?_toArray, List.getElem?_cons_succ, List.getElem?_cons_zero] at zz; clear b3; clear o3 g3 e3 WB OB RB CB BD zb; rw [Nat.zero_add]) | rw [← WB.out])
   clear z0 z1 z2 z3 z4 z5 z6 fz0 fz1 fz2 fz3 fz4 fz5 fz6
   replace B0 := Lib.hid (h3.2.2.at_ B0.out (by simp))
   have O3 := Lib.hid h3.1
   have N3 := Lib.hid h3.2.1
   have S2 := Lib.hid C.out.size
   have LB : Hid (w2.heap.size ≤ w3.heap.size) := Lib.hid h3.2.2.size
   replace C := Lib.hid (C.out.trans h3.2.2)
   have LT3 : Hid (∀ a, A3 = some a → a.block ≠ g0) := Lib.hid (fun a ha => by
    have q := N3.out a ha
    have r0 := L0.out
    omega)
   have LX3 : Hid (∀ a, A3 = some a → a.block < w3.heap.size) := Lib.hid (fun a ha => by
    obtain ⟨g, hg⟩ : ∃ g, a.block = g := ⟨_, rfl⟩
    rcases O3.out with ⟨q, _⟩ | ⟨g, full, q, hh, _⟩
    ·
     rw [q] at ha; cases ha
    ·
     rw [q] at ha; cases ha; exact lt_of_heap hh)
   clear h3
   have z0 := cell_of B0.out 0
   have fz0 := free_of B0.out 0
   have z1 := cell_of B0.out 1
   have fz1 := free_of B0.out 1
   have z2 := cell_of B0.out 2
   have fz2 := free_of B0.out 2
   have z3 := cell_of B0.out 3
   have fz3 := free_of B0.out 3
   have z4 := cell_of B0.out 4
   have fz4 := free_of B0.out 4
   have z5 := cell_of B0.out 5
   have fz5 := free_of B0.out 5
   have z6 := cell_of B0.out 6
   have fz6 := free_of B0.out 6
   simp only [List.getElem?_toArray, List.getElem?_cons_succ, List.getElem?_cons_zero] at z0 z1 z2 z3 z4 z5 z6
   clear zz ff; clear z0 z1 z2 z3 z4 z5 z6 fz0 fz1 fz2 fz3 fz4 fz5 fz6
   obtain ⟨p0, p2⟩ := box5 (.slice A3 x.l c3) B0.out LZg0.out C.out SZ.out
   generalize hW : (w3.setCell ⟨g0, 5, none⟩ (.slice A3 x.l c3)) = w4 at *
   have O4 := Lib.hid (O3.out.chg (S := [g0]) (hW ▸ (Chg.refl [g0] w3).put' 5 _) (fun a ha => by simp; exact LT3.out a ha))
   replace B0 := Lib.hid p0
   have LW : Hid (w3.heap.size ≤ w4.heap.size) := Lib.hid (by rw [← hW]; simp [World.setCell])
   replace C := Lib.hid p2
   have RBp := Lib.hid (RX.out.B.chg C.out (by simp))
   clear p0 p2 hW O3
   have z0 := cell_of B0.out 0
   have fz0 := free_of B0.out 0
   have z1 := cell_of B0.out 1
   have fz1 := free_of B0.out 1
   have z2 := cell_of B0.out 2
   have fz2 := free_of B0.out 2
   have z3 := cell_of B0.out 3
   have fz3 := free_of B0.out 3
   have z4 := cell_of B0.out 4
   have fz4 := free_of B0.out 4
   have z5 := cell_of B0.out 5
   have fz5 := free_of B0.out 5
   have z6 := cell_of B0.out 6
   have fz6 := free_of B0.out 6
   simp only [List.getElem?_toArray, List.getElem?_cons_succ, List.getElem?_cons_zero] at z0 z1 z2 z3 z4 z5 z6
   obtain ⟨wb, hwb, cb, bb⟩ := news1 w4 (.cells #[] 72)
   have WB := Lib.hid hwb
   have OB := Lib.hid (show OwnK spanTy wb (some ⟨w4.heap.size, 0, none⟩) 0 [] from OwnK.of (full := []) bb (Nat.zero_le _) (Nat.zero_le _) rfl rfl)
   have RB := Lib.hid (RBp.out.chg cb (by simp))
   have CB := Lib.hid cb
   have BD : Hid ((0 + x.bl) * 400 ≤ 140737488355327) := Lib.hid (by have := HS.out.2; rw [HR.out.bl]; omega)
   have zb := cell_of (cb.at_ B0.out (by simp)) 6
   simp only [List.getElem?_toArray, List.getElem?_cons_succ, List.getElem?_cons_zero] at zb
   clear hwb cb bb
   go_upto_region 8 with (first | (at_builtin; refine wpList_appK (R := spanTy) rfl (.tmp 23) (.tmp 25) rfl rfl (A := some ⟨w4.heap.size, 0, none⟩) (n := 0) (m := x.bl) (c := 0) (d := x.bc) (xs := []) (ys := e.q) OB.out rfl rfl RB.out BD.out ?_; intro A5 c5 w5 o5 g5 e5; have h5 : OwnK spanTy w5 A5 c5 e.q := o5; obtain ⟨hN5, hc5⟩ := app_ownk (w := w4) (fun a ha => by cases ha; exact Nat.le_refl _) CB.out g5 e5; have b5 := hc5.at_ B0.out (by simp); have zz := cell_of b5 6; have ff := free_of b5 6; simp only [List.getElem?_toArray, List.getElem?_cons_succ, List.getElem?_cons_zero] at zz; clear b5; clear o5 g5 e5 WB OB RB CB BD zb; rw [Nat.zero_add]) | rw [← WB.out])
   clear z0 z1 z2 z3 z4 z5 z6 fz0 fz1 fz2 fz3 fz4 fz5 fz6
   replace B0 := Lib.hid (hc5.at_ B0.out (by simp))
   replace O4 := Lib.hid (O4.out.chg hc5 (by simp))
   have P5 := Lib.hid h5
   have N5 : Hid (∀ a, A5 = some a → w3.heap.size ≤ a.block) := Lib.hid (fun a ha => Nat.le_trans LW.out (hN5 a ha))
   replace C := Lib.hid (C.out.trans hc5)
   have LT5 : Hid (∀ a, A5 = some a → a.block ≠ g0) := Lib.hid (fun a ha => by
    have q := N5.out a ha
    have r0 := L0.out
    have r2 := LB.out
    omega)
   clear h5 hN5 hc5 RBp
   have z0 := cell_of B0.out 0
   have fz0 := free_of B0.out 0
   have z1 := cell_of B0.out 1
   have fz1 := free_of B0.out 1
   have z2 := cell_of B0.out 2
   have fz2 := free_of B0.out 2
   have z3 := cell_of B0.out 3
   have fz3 := free_of B0.out 3
   have z4 := cell_of B0.out 4
   have fz4 := free_of B0.out 4
   have z5 := cell_of B0.out 5
   have fz5 := free_of B0.out 5
   have z6 := cell_of B0.out 6
   have fz6 := free_of B0.out 6
   simp only [List.getElem?_toArray, List.getElem?_cons_succ, List.getElem?_cons_zero] at z0 z1 z2 z3 z4 z5 z6
   clear zz ff; clear z0 z1 z2 z3 z4 z5 z6 fz0 fz1 fz2 fz3 fz4 fz5 fz6
   obtain ⟨p0, p2⟩ := box6 (.slice A5 x.bl c5) B0.out LZg0.out C.out SZ.out
   generalize hW : (w5.setCell ⟨g0, 6, none⟩ (.slice A5 x.bl c5)) = w6 at *
   have O6 := Lib.hid (O4.out.chg (S := [g0]) (hW ▸ (Chg.refl [g0] w5).put' 6 _) (fun a ha => by simp; exact LT3.out a ha))
   have P6 := Lib.hid (P5.out.chg (S := [g0]) (hW ▸ (Chg.refl [g0] w5).put' 6 _) (fun a ha => by simp; exact LT5.out a ha))
   replace B0 := Lib.hid p0
   replace C := Lib.hid p2
   clear p0 p2 hW O4 P5
   have z0 := cell_of B0.out 0
   have fz0 := free_of B0.out 0
   have z1 := cell_of B0.out 1
   have fz1 := free_of B0.out 1
   have z2 := cell_of B0.out 2
   have fz2 := free_of B0.out 2
   have z3 := cell_of B0.out 3
   have fz3 := free_of B0.out 3
   have z4 := cell_of B0.out 4
   have fz4 := free_of B0.out 4
   have z5 := cell_of B0.out 5
   have fz5 := free_of B0.out 5
   have z6 := cell_of B0.out 6
   have fz6 := free_of B0.out 6
   simp only [List.getElem?_toArray, List.getElem?_cons_succ, List.getElem?_cons_zero] at z0 z1 z2 z3 z4 z5 z6
   have KA : Hid (∀ a, A3 = some a → a.block < w6.heap.size ∧ wr.heap.size ≤ a.block) := Lib.hid (fun a ha => ⟨O6.out.lt a ha, by have := N3.out a ha; have := S2.out; omega⟩)
   have KB : Hid (∀ a, A5 = some a → a.block < w6.heap.size ∧ wr.heap.size ≤ a.block) := Lib.hid (fun a ha => ⟨P6.out.lt a ha, by have := N5.out a ha; have := S2.out; have := LB.out; omega⟩)
   have KC : Hid (x.bl ≤ c5 ∧ c5 ≤ maxLen) := Lib.hid (by have q := P6.out.cap; have := RX.out.bl; exact ⟨by omega, q.2⟩)
   have XR : Hid (EvR w6 ⟨x.n, x.s, x.p, x.k, x.m, A3, x.l, c3, A5, x.bl, c5⟩ e) := Lib.hid ⟨RX.out.n, RX.out.s, RX.out.p, RX.out.k, RX.out.m, RX.out.l, RX.out.bl, by show Bs w6 A3 x.l e.b; rw [RX.out.l]; exact O6.out.reads, by show RdK spanTy w6 A5 x.bl e.q; rw [RX.out.bl]; exact P6.out.reads⟩
   have LA1 := Lib.hid RO.out.lt
   replace RO := Lib.hid (RO.out.chg C.out (by simp))
   replace RU := Lib.hid (RU.out.chg C.out)
   have S6 := Lib.hid C.out.size
   replace RC := Lib.hid (RC.out.trans C.out)
   clear C HR N3 N5 LT3 LT5 LX3 LB LW S2 O6 P6 B0 HS RX
   obtain ⟨w8, hw, hc, b3⟩ := news1 w6 (.cells #[.int .i64 x.n, .int .i64 x.s, .string x.p, .int .i64 x.k, .int .i64 x.m, .slice A3 x.l c3, .slice A5 x.bl c5] 30)
   have W3 := Lib.hid hw
   have R3 := Lib.hid (rd_oneEc (X := ⟨x.n, x.s, x.p, x.k, x.m, A3, x.l, c3, A5, x.bl, c5⟩) b3)
   obtain ⟨X, hX⟩ : ∃ X : EvT, X = ⟨x.n, x.s, x.p, x.k, x.m, A3, x.l, c3, A5, x.bl, c5⟩ := ⟨_, rfl⟩
   have fX : X.A = A3 ∧ X.B = A5 ∧ X.bl = x.bl ∧ X.bc = c5 := by rw [hX]; exact ⟨rfl, rfl, rfl, rfl⟩
   rw [← hX] at R3 XR
   have FX := Lib.hid fX
   replace RO := Lib.hid (RO.out.chg hc (by simp))
   replace RU := Lib.hid (RU.out.chg hc)
   replace XR := Lib.hid (XR.out.chg hc)
   have S3 := Lib.hid hc.size
   replace RC := Lib.hid (RC.out.trans hc)
   clear hw hc b3 hX fX
   have N4 : Hid ((us.length + 1) * 400 ≤ 140737488355327) := Lib.hid (by have := YL.out; have := ZL.out; omega)
   go_wp2_with (at_builtin; rw [← W3.out]; refine wpList_appK (R := evTy) rfl (.tmp 28) (.tmp 30) rfl rfl (A := A2) (n := us.length) (m := 1) (c := d2) (d := 1) (xs := us) (ys := [X]) RO.out rfl rfl R3.out N4.out ?_; intro A7 c7 w7 o7 g7 e7; have O7 := Lib.hid o7; have F7 := Lib.hid (fresh_appE RN.out RC.out g7 e7); have G7 := Lib.hid g7; have E7 := Lib.hid e7; clear o7 g7 e7)
   clear z0 z1 z2 z3 z4 z5 z6 fz0 fz1 fz2 fz3 fz4 fz5 fz6
   have CG : Hid (Chg (blkOf A2) w8 w7) := Lib.hid ((Chg.refl (blkOf A2) w8).grown G7.out (fun i hi => by
    cases A2 with
    | none => simp at hi
    | some a => simp at hi; subst hi; exact .inl (mem_blkOf rfl)))
   have RE7 : Hid (EvsR w7 (us ++ [X]) (es.take (k + 1))) := Lib.hid (by
    rw [ET.out]
    refine EvsR.snoc (RU.out.chgS CG.out (fun y hy => ⟨fun a ha q => ?_, fun a ha q => ?_⟩)) (XR.out.chgS CG.out (fun a ha q => ?_) (fun a ha q => ?_))
    ·
     obtain ⟨b, hb, e⟩ := of_blkOf q; exact ((RA.out y hy).1 a ha).2 b hb e.symm
    ·
     obtain ⟨b, hb, e⟩ := of_blkOf q; exact ((RA.out y hy).2.1 a ha).2 b hb e.symm
    ·
     rw [FX.out.1] at ha; obtain ⟨b, hb, e⟩ := of_blkOf q; have := LA1.out b hb; have := (KA.out a ha).2; omega
    ·
     rw [FX.out.2.1] at ha; obtain ⟨b, hb, e⟩ := of_blkOf q; have := LA1.out b hb; have := (KB.out a ha).2; omega)
   have RA7 : Hid (ApartE w7 A7 (us ++ [X])) := Lib.hid (fun y hy => by
    have s7 := CG.out.size
    have s3 := S3.out
    have s6 := S6.out
    have lo : ∀ a : Addr, a.block < w8.heap.size → (∀ b, A2 = some b → a.block ≠ b.block) → a.block < w7.heap.size ∧ ∀ b, A7 = some b → a.block ≠ b.block := fun a h1 h2 => ⟨by omega, fun b hb => by
     rcases E7.out with q | q
     ·
      rw [q] at hb; exact h2 b hb
     ·
      rw [q] at hb; cases hb; exact Nat.ne_of_lt h1⟩
    rcases List.mem_append.1 hy with r | r
    ·
     exact ⟨fun a ha => lo a (by have := ((RA.out y r).1 a ha).1; omega) ((RA.out y r).1 a ha).2, fun a ha => lo a (by have := ((RA.out y r).2.1 a ha).1; omega) ((RA.out y r).2.1 a ha).2, (RA.out y r).2.2⟩
    ·
     simp at r
     subst r
     exact ⟨fun a ha => by rw [FX.out.1] at ha; exact lo a (by have := (KA.out a ha).1; omega) (fun b hb => by have := LA1.out b hb; have := (KA.out a ha).2; omega), fun a ha => by rw [FX.out.2.1] at ha; exact lo a (by have := (KB.out a ha).1; omega) (fun b hb => by have := LA1.out b hb; have := (KB.out a ha).2; omega), by rw [FX.out.2.2.1, FX.out.2.2.2]; exact KC.out⟩)
   clear CG G7 E7 RO RU RA; go_wp2; go_round
   case rel => exact ⟨k + 1, A7, c7, us ++ [X], by omega, by simp [YL.out], by go_num, by simp, O7, RE7, RA7, Lib.hid F7.out.1, F7.out.2⟩
   case measure => simp [RowKit.intOf]; omega
  ·
   obtain rfl : k = xs.length := by omega
   have i1 : ¬ (xs.length : Int) < (xs.length : Int) := by omega
   have ET : es.take xs.length = es := by rw [RE.out.1]; exact List.take_length
   rw [ET] at RU
   have YL := Lib.hid hyl
   clear hyl ET; go_wp2; go_ret
   exact ⟨A2, d2, us, rfl, RO.out.reads, RU.out, RC.out⟩
end
section
open Go.RowKit Go.Lib


def cmpS (x : Sp) (n s : Int) : Int := if x.1 < n ∨ x.1 = n ∧ x.2.2 < s then -1 else if n < x.1 ∨ s < x.2.1 then 1 else 0
theorem cmp_zero {x : Sp} {n s : Int} : cmpS x n s = 0 ↔ InS x n s := by
 unfold cmpS InS
 split
 ·
  constructor
  ·
   intro h; exact absurd h (by decide)
  ·
   intro h; omega
 ·
  split
  ·
   constructor
   ·
    intro h; exact absurd h (by decide)
   ·
    intro h; omega
  ·
   constructor
   ·
    intro _; omega
   ·
    intro _; rfl
theorem cmp_neg {x : Sp} {n s : Int} : cmpS x n s < 0 ↔ x.1 < n ∨ x.1 = n ∧ x.2.2 < s := by
 unfold cmpS
 split
 ·
  rename_i h; exact ⟨fun _ => h, fun _ => by decide⟩
 ·
  rename_i h
  split <;> exact ⟨fun q => absurd q (by decide), fun q => absurd q h⟩
theorem norm_at {l : List Sp} (h : Norm l) {p q : Nat} {x y : Sp} (hx : l[p]? = some x) (hy : l[q]? = some y) (hl : p < q) : Ap x y ∧ SpOk x ∧ SpOk y := by
 have hp := List.getElem?_eq_some_iff.1 hx
 have hq := List.getElem?_eq_some_iff.1 hy
 obtain ⟨l1, e1⟩ := hp
 obtain ⟨l2, e2⟩ := hq
 refine ⟨?_, h.1 x (List.mem_of_getElem? hx), h.1 y (List.mem_of_getElem? hy)⟩
 have := List.pairwise_iff_getElem.1 h.2 p q l1 l2 hl
 rw [e1, e2] at this
 exact this
def LoS (xs : List Sp) (n s : Int) (i : Nat) : Prop := ∀ p x, xs[p]? = some x → p < i → cmpS x n s < 0
def HiS (xs : List Sp) (n s : Int) (j : Nat) : Prop := ∀ p x, xs[p]? = some x → j ≤ p → ¬ cmpS x n s < 0
theorem lo_next {xs : List Sp} {n s : Int} (hn : Norm xs) {h : Nat} {x : Sp} (hx : xs[h]? = some x) (hc : cmpS x n s < 0) : LoS xs n s (h + 1) := by
 intro p y hy hp
 by_cases e : p = h
 ·
  subst e; rw [hx] at hy; cases hy; exact hc
 ·
  obtain ⟨a, o1, o2⟩ := norm_at hn hy hx (by omega)
  rw [cmp_neg] at hc ⊢
  unfold Ap SpOk at *
  omega
theorem hi_next {xs : List Sp} {n s : Int} (hn : Norm xs) {h : Nat} {x : Sp} (hx : xs[h]? = some x) (hc : ¬ cmpS x n s < 0) : HiS xs n s h := by
 intro p y hy hp
 by_cases e : p = h
 ·
  subst e; rw [hx] at hy; cases hy; exact hc
 ·
  obtain ⟨a, o1, o2⟩ := norm_at hn hx hy (by omega)
  rw [cmp_neg] at hc ⊢
  unfold Ap SpOk at *
  omega
theorem found_yes {xs : List Sp} {n s : Int} {i : Nat} {x : Sp} (hx : xs[i]? = some x) (hc : cmpS x n s = 0) : Mem xs n s := ⟨x, List.mem_of_getElem? hx, cmp_zero.1 hc⟩
theorem found_no {xs : List Sp} {n s : Int} (hn : Norm xs) {i : Nat} (hl : LoS xs n s i) (hh : HiS xs n s i) (hx : ∀ x, xs[i]? = some x → cmpS x n s ≠ 0) : ¬ Mem xs n s := by
 rintro ⟨y, hy, hi⟩
 obtain ⟨q, hq, rfl⟩ := List.getElem_of_mem hy
 have hz : cmpS xs[q] n s = 0 := cmp_zero.2 hi
 have hqe := List.getElem?_eq_getElem hq
 rcases Nat.lt_trichotomy q i with h | h | h
 ·
  have := hl q _ hqe h; omega
 ·
  subst h; exact hx _ hqe hz
 ·
  have hie := List.getElem?_eq_getElem (show i < xs.length by omega)
  obtain ⟨a, o1, o2⟩ := norm_at hn hie hqe h
  have := hh i _ hie (Nat.le_refl _)
  rw [cmp_neg] at this
  unfold Ap SpOk InS at *
  omega
set_option maxRecDepth 100000 in
set_option maxHeartbeats 4000000 in
theorem has1_any (w : World) (x : Sp) (n s : Int) : Calls Tryz.prog 128 #[.agg #[.int .i64 x.1, .int .i64 x.2.1, .int .i64 x.2.2], .agg #[.int .i64 n, .int .i64 s]] w fun e w' => e = .returned (.int .i64 (cmpS x n s)) ∧ Chg [] w w' := by
 obtain ⟨w1, hw1, c1, b0, b1⟩ := news2 w (.cells #[.int .i64 x.1, .int .i64 x.2.1, .int .i64 x.2.2] 72) (.cells #[.int .i64 n, .int .i64 s] 24)
 have W1 := Lib.hid hw1
 have C1 := Lib.hid c1
 have y0 := cell_of b0 0
 have y1 := cell_of b0 1
 have y2 := cell_of b0 2
 have z0 := cell_of b1 0
 have z1 := cell_of b1 1
 simp only [List.getElem?_toArray, List.getElem?_cons_succ, List.getElem?_cons_zero] at y0 y1 y2 z0 z1
 clear hw1 c1 b0 b1
 have fin : ∀ v, cmpS x n s = v → Calls Tryz.prog 128 #[.agg #[.int .i64 x.1, .int .i64 x.2.1, .int .i64 x.2.2], .agg #[.int .i64 n, .int .i64 s]] w (fun e w' => e = .returned (.int .i64 v) ∧ Chg [] w w') → Calls Tryz.prog 128 #[.agg #[.int .i64 x.1, .int .i64 x.2.1, .int .i64 x.2.2], .agg #[.int .i64 n, .int .i64 s]] w fun e w' => e = .returned (.int .i64 (cmpS x n s)) ∧ Chg [] w w' := fun v hv h => hv ▸ h
 obtain ⟨x1, x2, x3⟩ := x
 dsimp only at *
 rcases Int.lt_trichotomy x1 n with h | h | h
 ·
  have f1 : x1 < n := h
  refine fin (-1) (by unfold cmpS; exact if_pos (.inl h)) ?_
  clear fin
  go_enter Tryz.func128, Tryz.ntmps128
  go_upto_region 1 with fail
  rw [← W1.out]
  generalize w.heap.size = g0 at *
  go_wp2; go_ret
  exact ⟨rfl, C1.out⟩
 ·
  subst h
  have f0 : ¬ x1 < x1 := by omega
  have f3 : ((x1 == x1) : Bool) = true := by simp
  by_cases h2 : x3 < s
  ·
   skip
   refine fin (-1) (by unfold cmpS; exact if_pos (.inr ⟨rfl, h2⟩)) ?_
   clear fin
   go_enter Tryz.func128, Tryz.ntmps128
   go_upto_region 1 with fail
   rw [← W1.out]
   generalize w.heap.size = g0 at *
   go_wp2; go_ret
   exact ⟨rfl, C1.out⟩
  by_cases h3 : s < x2
  ·
   skip
   refine fin (1) (by unfold cmpS; rw [if_neg (by simp only; omega)]; exact if_pos (.inr h3)) ?_
   clear fin
   go_enter Tryz.func128, Tryz.ntmps128
   go_upto_region 1 with fail
   rw [← W1.out]
   generalize w.heap.size = g0 at *
   go_wp2; go_ret
   exact ⟨rfl, C1.out⟩
  refine fin (0) (by unfold cmpS; rw [if_neg (by simp only; omega)]; exact if_neg (by simp only; omega)) ?_
  clear fin
  go_enter Tryz.func128, Tryz.ntmps128
  go_upto_region 1 with fail
  rw [← W1.out]
  generalize w.heap.size = g0 at *
  go_wp2; go_ret
  exact ⟨rfl, C1.out⟩
 ·
  have f1 : ¬ x1 < n := by omega
  have f3 : ((x1 == n) : Bool) = false := by simp; omega
  refine fin (1) (by unfold cmpS; rw [if_neg (by simp only; omega)]; exact if_pos (.inl h)) ?_
  clear fin
  go_enter Tryz.func128, Tryz.ntmps128
  go_upto_region 1 with fail
  rw [← W1.out]
  generalize w.heap.size = g0 at *
  go_wp2; go_ret
  exact ⟨rfl, C1.out⟩
end
section
open Go.RowKit Go.Lib


set_option maxRecDepth 100000 in
set_option maxHeartbeats 8000000 in
theorem binspan_any (w : World) (A : Option Addr) (c : Nat) (xs : List Sp) (n s : Int) (h : RdK spanTy w A xs.length xs) (hn : Norm xs) (hl : xs.length ≤ 4000) :
  Calls Tryz.prog 127 #[.slice A xs.length c, .agg #[.int .i64 n, .int .i64 s], .func (.func 128) #[] #[]] w fun e w' => ∃ i : Int, e = .returned (.tuple #[.int .i64 i, .bool (decide (Mem xs n s))]) ∧ Chg [] w w' := by
 have HX := Lib.hid h
 have HNM := Lib.hid hn
 have HL := Lib.hid hl
 clear h hn hl
 obtain ⟨w1, hw1, c1, b1⟩ := news1 w (.cells #[.int .i64 n, .int .i64 s] 24)
 have W1 := Lib.hid hw1
 have C1 := Lib.hid c1
 have B1 := Lib.hid b1
 clear hw1 c1 b1
 go_enter Tryz.func127, Tryz.ntmps127
 go_upto_region 2 with fail
 rw [← W1.out]
 generalize w.heap.size = g0 at *
 clear W1; go_wp2
 go_loopw [9, 10] (fun v9 v10 wr => ∃ (i j : Nat), i ≤ j ∧ j ≤ xs.length ∧ v9 = .int .i64 (i : Int) ∧ v10 = .int .i64 (j : Int) ∧ Hid (LoS xs n s i ∧ HiS xs n s j) ∧ Hid (Chg [] w1 wr)) (fun v9 v10 _ => (RowKit.intOf v10).toNat - (RowKit.intOf v9).toNat)
 case atStart => exact ⟨0, xs.length, Nat.zero_le _, Nat.le_refl _, rfl, rfl, Lib.hid ⟨fun p x _ h => absurd h (by omega), fun p x hx h => absurd ((List.getElem?_eq_some_iff.1 hx).1) (by omega)⟩, Chg.refl _ _⟩
 case round =>
  obtain ⟨i, j, hij, hj, rfl, rfl, HI, HC⟩ := hrel
  have i0 : (0 : Int) ≤ (i : Int) := by omega
  have hl := HL.out
  have i1 : IntKind.i64.wrap ((i : Int) + (j : Int)) = ((i + j : Nat) : Int) := by rw [IntWalk.i64_in _ (by omega)]; omega
  by_cases hlt : i < j
  ·
   have i2 : (i : Int) < (j : Int) := by omega
   go_upto_region 5 with fail
   obtain ⟨k, hk⟩ : ∃ k : Nat, k = (i + j) / 2 := ⟨_, rfl⟩
   have e1 : ((i : Int) + (j : Int)) / 2 = (k : Int) := by omega
   rw [e1]
   have hk1 : i ≤ k ∧ k < j := by omega
   clear hk e1 i1 i2
   obtain ⟨x, hx⟩ : ∃ x, xs[k]? = some x := ⟨_, List.getElem?_eq_getElem (by omega)⟩
   have R4 := (HX.out.chg C1.out (by simp)).chg HC.out (by simp)
   obtain ⟨g, o, eA, _⟩ := R4.line (by omega)
   subst eA
   obtain ⟨q0, q1, q2⟩ := spanCells R4 hx
   have b4 := HC.out.at_ B1.out (by simp)
   have d0 := cell_of b4 0
   have d1 := cell_of b4 1
   simp only [List.getElem?_toArray, List.getElem?_cons_succ, List.getElem?_cons_zero] at d0 d1
   have k0 : (0 : Int) ≤ (k : Int) := by omega
   have k1 : (k : Int) < (xs.length : Int) := by omega
   have HX5 := Lib.hid hx
   clear R4 b4 hx
   refine wp_region_held_drew (S := fun w' => w'.cell? ⟨g, o + k * 3, none⟩ = some (.int .i64 x.1) ∧ w'.cell? ⟨g, o + k * 3 + 1, none⟩ = some (.int .i64 x.2.1) ∧ w'.cell? ⟨g, o + k * 3 + 2, none⟩ = some (.int .i64 x.2.2) ∧ w'.cell? ⟨g0, 0, none⟩ = some (.int .i64 n) ∧ w'.cell? ⟨g0, 1, none⟩ = some (.int .i64 s)) (by kernel_rfl) ⟨q0, q1, q2, d0, d1⟩ (fun hHeld => ?_)
   have CD := Lib.hid (Chg.refl [] wr).drew
   have HH := Lib.hid (fun (w' : World) (hc : Chg [] wr.drew w') => (⟨(CD.out.trans hc).cell q0 (by simp), (CD.out.trans hc).cell q1 (by simp), (CD.out.trans hc).cell q2 (by simp), (CD.out.trans hc).cell d0 (by simp), (CD.out.trans hc).cell d1 (by simp)⟩ : w'.cell? ⟨g, o + k * 3, none⟩ = some (.int .i64 x.1) ∧ w'.cell? ⟨g, o + k * 3 + 1, none⟩ = some (.int .i64 x.2.1) ∧ w'.cell? ⟨g, o + k * 3 + 2, none⟩ = some (.int .i64 x.2.2) ∧ w'.cell? ⟨g0, 0, none⟩ = some (.int .i64 n) ∧ w'.cell? ⟨g0, 1, none⟩ = some (.int .i64 s)))
   clear q0 q1 q2 d0 d1
   generalize wr.drew = wd at *
   refine sy 0 24 rfl rfl ?_; try simp only [Act.put, sA, s0, s1]
   refine sy 1 25 rfl rfl ?_; try simp only [Act.put, sA, s0, s1]
   refine sy 2 26 rfl rfl ?_; try simp only [Act.put, sA, s0, s1]
   refine sy 3 27 rfl rfl ?_; try simp only [Act.put, sA, s0, s1]
   refine sy 4 28 rfl rfl ?_ (hy := by (intro w hSw; (try dsimp only at hSw); obtain ⟨q0, q1, q2, q3, q4⟩ := hSw; go_simp; try with_reducible rfl))
   try simp only [Act.put, sA, s0, s1]
   refine sy 5 29 rfl rfl ?_ (hy := by (intro w hSw; (try dsimp only at hSw); obtain ⟨q0, q1, q2, q3, q4⟩ := hSw; go_simp; try with_reducible rfl))
   try simp only [Act.put, sA, s0, s1]
   refine wpAnyH_ready (rs := [6]) (by kernel_rfl) (by simp) ?_; refine AllReadyH.cons rfl (fun K hK => ?_) AllReadyH.nil; replace hK := Lib.hid hK; go_simp
   refine (has1_any wd x n s).mono ?_
   rintro r w6 ⟨rfl, h6⟩
   have C6 := Lib.hid h6
   clear h6 hHeld
   refine hK.out _ _ (HH.out w6 C6.out) (fun hHeld => ?_)
   clear hK K; try simp only [Act.put, sA, s0, s1]
   refine sy 7 31 rfl rfl ?_; try simp only [Act.put, sA, s0, s1]
   refine wpAnyH_done (by kernel_rfl) ?_ _; clear hHeld HH
   have CE := Lib.hid (HC.out.trans (CD.out.trans C6.out))
   by_cases hneg : cmpS x n s < 0
   ·
    have LO := Lib.hid (lo_next HNM.out HX5.out hneg)
    have dn1 : decide (cmpS x n s < 0) = true := decide_eq_true hneg
    have w1' : IntKind.i64.wrap ((k : Int) + 1) = (k : Int) + 1 := IntWalk.i64_in _ (by omega)
    go_wp2; go_round
    case rel => exact ⟨k + 1, j, by omega, hj, by go_num, rfl, Lib.hid ⟨LO.out, HI.out.2⟩, CE.out⟩
    case measure => simp [RowKit.intOf]; omega
   ·
    have HIN := Lib.hid (hi_next HNM.out HX5.out hneg)
    have dn1 : decide (cmpS x n s < 0) = false := decide_eq_false hneg
    go_wp2; go_round
    case rel => exact ⟨i, k, by omega, by omega, rfl, rfl, Lib.hid ⟨HI.out.1, HIN.out⟩, CE.out⟩
    case measure => simp [RowKit.intOf]; omega
  ·
   obtain rfl : i = j := by omega
   have i2 : ¬ (i : Int) < (i : Int) := by omega
   by_cases hin : i < xs.length
   ·
    have k1 : (i : Int) < (xs.length : Int) := by omega
    have k2 : decide ((i : Int) < (xs.length : Int)) = true := by simp; omega
    have k3 : decide (i < xs.length) = true := by simp; omega
    obtain ⟨x, hx⟩ : ∃ x, xs[i]? = some x := ⟨_, List.getElem?_eq_getElem hin⟩
    have R4 := (HX.out.chg C1.out (by simp)).chg HC.out (by simp)
    obtain ⟨g, o, eA, _⟩ := R4.line (by omega)
    subst eA
    obtain ⟨q0, q1, q2⟩ := spanCells R4 hx
    have b4 := HC.out.at_ B1.out (by simp)
    have d0 := cell_of b4 0
    have d1 := cell_of b4 1
    simp only [List.getElem?_toArray, List.getElem?_cons_succ, List.getElem?_cons_zero] at d0 d1
    have ANS : Hid (decide (Mem xs n s) = decide (cmpS x n s = 0)) := Lib.hid (by
     by_cases hz : cmpS x n s = 0
     ·
      rw [decide_eq_true (found_yes hx hz), decide_eq_true hz]
     ·
      rw [decide_eq_false (found_no HNM.out HI.out.1 HI.out.2 (fun y hy => by rw [hx] at hy; cases hy; exact hz)), decide_eq_false hz])
    clear R4 b4 hx
    go_upto_region 8 with fail
    refine wp_region_held_drew (S := fun w' => w'.cell? ⟨g, o + i * 3, none⟩ = some (.int .i64 x.1) ∧ w'.cell? ⟨g, o + i * 3 + 1, none⟩ = some (.int .i64 x.2.1) ∧ w'.cell? ⟨g, o + i * 3 + 2, none⟩ = some (.int .i64 x.2.2) ∧ w'.cell? ⟨g0, 0, none⟩ = some (.int .i64 n) ∧ w'.cell? ⟨g0, 1, none⟩ = some (.int .i64 s)) (by kernel_rfl) ⟨q0, q1, q2, d0, d1⟩ (fun hHeld => ?_)
    have CD := Lib.hid (Chg.refl [] wr).drew
    have HH := Lib.hid (fun (w' : World) (hc : Chg [] wr.drew w') => (⟨(CD.out.trans hc).cell q0 (by simp), (CD.out.trans hc).cell q1 (by simp), (CD.out.trans hc).cell q2 (by simp), (CD.out.trans hc).cell d0 (by simp), (CD.out.trans hc).cell d1 (by simp)⟩ : w'.cell? ⟨g, o + i * 3, none⟩ = some (.int .i64 x.1) ∧ w'.cell? ⟨g, o + i * 3 + 1, none⟩ = some (.int .i64 x.2.1) ∧ w'.cell? ⟨g, o + i * 3 + 2, none⟩ = some (.int .i64 x.2.2) ∧ w'.cell? ⟨g0, 0, none⟩ = some (.int .i64 n) ∧ w'.cell? ⟨g0, 1, none⟩ = some (.int .i64 s)))
    clear q0 q1 q2 d0 d1 i2
    generalize wr.drew = wd at *
    refine sy 0 35 rfl rfl ?_; try simp only [Act.put, sA, s0, s1]
    refine sy 1 36 rfl rfl ?_; try simp only [Act.put, sA, s0, s1]
    refine sy 2 37 rfl rfl ?_; try simp only [Act.put, sA, s0, s1]
    refine sy 3 38 rfl rfl ?_; try simp only [Act.put, sA, s0, s1]
    refine sy 4 39 rfl rfl ?_; try simp only [Act.put, sA, s0, s1]
    refine sy 5 40 rfl rfl ?_; try simp only [Act.put, sA, s0, s1]
    refine sy 6 41 rfl rfl ?_; try simp only [Act.put, sA, s0, s1]
    refine sy 7 42 rfl rfl ?_; try simp only [Act.put, sA, s0, s1]
    refine sy 8 43 rfl rfl ?_; try simp only [Act.put, sA, s0, s1]
    refine sy 9 44 rfl rfl ?_ (hy := by (intro w hSw; (try dsimp only at hSw); obtain ⟨q0, q1, q2, q3, q4⟩ := hSw; go_simp; try with_reducible rfl))
    try simp only [Act.put, sA, s0, s1]
    refine sy 10 45 rfl rfl ?_ (hy := by (intro w hSw; (try dsimp only at hSw); obtain ⟨q0, q1, q2, q3, q4⟩ := hSw; go_simp; try with_reducible rfl))
    try simp only [Act.put, sA, s0, s1]
    refine wpAnyH_ready (rs := [11]) (by kernel_rfl) (by simp) ?_; refine AllReadyH.cons rfl (fun K hK => ?_) AllReadyH.nil; replace hK := Lib.hid hK; go_simp
    refine (has1_any wd x n s).mono ?_
    rintro r w6 ⟨rfl, h6⟩
    have C6 := Lib.hid h6
    clear h6 hHeld
    refine hK.out _ _ (HH.out w6 C6.out) (fun hHeld => ?_)
    clear hK K; try simp only [Act.put, sA, s0, s1]
    refine sy 12 47 rfl rfl ?_; try simp only [Act.put, sA, s0, s1]
    refine sy 13 48 rfl rfl ?_; try simp only [Act.put, sA, s0, s1]
    refine sy 14 6 rfl rfl ?_; try simp only [Act.put, sA, s0, s1]
    refine sy 15 7 rfl rfl ?_; try simp only [Act.put, sA, s0, s1]
    refine wpAnyH_done (by kernel_rfl) ?_ _; clear hHeld HH
    have CE := Lib.hid (C1.out.trans (HC.out.trans (CD.out.trans C6.out)))
    by_cases hz : cmpS x n s = 0
    ·
     have AN : decide (Mem xs n s) = true := by rw [ANS.out, decide_eq_true hz]
     have dz : ((cmpS x n s == 0) : Bool) = true := by simpa using hz
     clear ANS hz; go_wp2; go_ret2
     (first | exact ⟨(i : Int), by show Ending.returned (.tuple #[.int .i64 (i : Int), .bool (cmpS x n s == 0)]) = _; rw [dz, AN], CE.out⟩ | exact ⟨⟨(i : Int), by show Ending.returned (.tuple #[.int .i64 (i : Int), .bool false]) = _; first | rfl | rw [AN]⟩, CE.out⟩)
    ·
     have AN : decide (Mem xs n s) = false := by rw [ANS.out, decide_eq_false hz]
     have dz : ((cmpS x n s == 0) : Bool) = false := by simpa using hz
     clear ANS hz; go_wp2; go_ret2
     (first | exact ⟨(i : Int), by show Ending.returned (.tuple #[.int .i64 (i : Int), .bool (cmpS x n s == 0)]) = _; rw [dz, AN], CE.out⟩ | exact ⟨⟨(i : Int), by show Ending.returned (.tuple #[.int .i64 (i : Int), .bool false]) = _; first | rfl | rw [AN]⟩, CE.out⟩)
   ·
    have k1 : ¬ (i : Int) < (xs.length : Int) := by omega
    have k2 : decide ((i : Int) < (xs.length : Int)) = false := by simp; omega
    have k3 : decide (i < xs.length) = false := by simp; omega
    have ANS : Hid (decide (Mem xs n s) = false) := Lib.hid (decide_eq_false (found_no HNM.out HI.out.1 HI.out.2 (fun y hy => absurd ((List.getElem?_eq_some_iff.1 hy).1) hin)))
    go_upto_region 8 with fail
    refine wp_region_held_drew (S := fun _ => True) (by kernel_rfl) trivial (fun hHeld => ?_)
    have CD := Lib.hid (Chg.refl [] wr).drew
    generalize wr.drew = wd at *
    clear i2
    refine sy 0 35 rfl rfl ?_ (hS := trivial)
    try simp only [Act.put, sA, s0, s1]
    refine sy 1 36 rfl rfl ?_ (hS := trivial)
    try simp only [Act.put, sA, s0, s1]
    refine sy 2 37 rfl rfl ?_ (hS := trivial)
    try simp only [Act.put, sA, s0, s1]
    refine sy 3 38 rfl rfl ?_ (hS := trivial)
    try simp only [Act.put, sA, s0, s1]
    refine sy 4 39 rfl rfl ?_ (hS := trivial)
    try simp only [Act.put, sA, s0, s1]
    refine sn 5 40 rfl rfl ?_ (hS := trivial)
    try simp only [Act.put, sA, s0, s1]
    refine sn 6 41 rfl rfl ?_ (hS := trivial)
    try simp only [Act.put, sA, s0, s1]
    refine sn 7 42 rfl rfl ?_ (hS := trivial)
    try simp only [Act.put, sA, s0, s1]
    refine sn 8 43 rfl rfl ?_ (hS := trivial)
    try simp only [Act.put, sA, s0, s1]
    refine sn 9 44 rfl rfl ?_ (hS := trivial)
    try simp only [Act.put, sA, s0, s1]
    refine sn 10 45 rfl rfl ?_ (hS := trivial)
    try simp only [Act.put, sA, s0, s1]
    refine sn 11 46 rfl rfl ?_ (hS := trivial)
    try simp only [Act.put, sA, s0, s1]
    refine sn 12 47 rfl rfl ?_ (hS := trivial)
    try simp only [Act.put, sA, s0, s1]
    refine sy 13 48 rfl rfl ?_ (hS := trivial)
    try simp only [Act.put, sA, s0, s1]
    refine sy 14 6 rfl rfl ?_ (hS := trivial)
    try simp only [Act.put, sA, s0, s1]
    refine sy 15 7 rfl rfl ?_ (hS := trivial)
    try simp only [Act.put, sA, s0, s1]
    refine wpAnyH_done (by kernel_rfl) ?_ _; clear hHeld
    have CE := Lib.hid (C1.out.trans (HC.out.trans CD.out))
    have AN := ANS.out
    go_wp2; go_ret2
    (first | exact ⟨(i : Int), by show Ending.returned (.tuple #[.int .i64 (i : Int), .bool (cmpS x n s == 0)]) = _; rw [dz, AN], CE.out⟩ | exact ⟨⟨(i : Int), by show Ending.returned (.tuple #[.int .i64 (i : Int), .bool false]) = _; first | rfl | rw [AN]⟩, CE.out⟩)
end
section
open Go.RowKit Go.Lib


def hasE (xs : List Sp) (n s : Int) : Bool := decide (chkS xs = 0) && decide (Mem xs n s)
set_option maxRecDepth 100000 in
set_option maxHeartbeats 4000000 in
theorem has_any (w : World) (A : Option Addr) (c : Nat) (xs : List Sp) (n s : Int) (h : RdK spanTy w A xs.length xs) (hn : xs.length ≤ 140737488351232) :
  Calls Tryz.prog 65 #[.slice A xs.length c, .agg #[.int .i64 n, .int .i64 s]] w fun e w' => e = .returned (.bool (hasE xs n s)) ∧ Chg [] w w' := by
 obtain ⟨w0, hw0, c0, b0⟩ := news1 w (.cells #[.int .i64 n, .int .i64 s] 24)
 have W0 := Lib.hid hw0
 have C0 := Lib.hid c0
 have B0 := Lib.hid b0
 have H := Lib.hid (h.chg c0 (by simp))
 have HN := Lib.hid hn
 clear hw0 c0 b0 h hn
 rcases chk_two xs with e1 | e1
 ·
  have eH : hasE xs n s = decide (Mem xs n s) := by unfold hasE; rw [decide_eq_true e1]; rfl
  rw [eH]
  have WF := Lib.hid (wf_of_chk e1)
  clear eH
  go_enter Tryz.func65, Tryz.ntmps65
  go_wp2_with fail
  rw [← W0.out]
  generalize w.heap.size = g0 at *
  refine (pacheck_any w0 A _ c xs H.out HN.out).mono ?_
  rintro e w1 ⟨rfl, h1⟩
  rw [e1]
  have C1 := Lib.hid h1
  have b1 := h1.at_ B0.out (by simp)
  have z0 := cell_of b1 0
  have z1 := cell_of b1 1
  simp only [List.getElem?_toArray, List.getElem?_cons_succ, List.getElem?_cons_zero] at z0 z1
  clear h1 b1; go_wp2_with fail
  refine (binspan_any w1 A c xs n s (H.out.chg C1.out (by simp)) WF.out.1.1 WF.out.2).mono ?_
  rintro e w2 ⟨i, rfl, h2⟩
  have C2 := Lib.hid (C0.out.trans (C1.out.trans h2))
  clear h2 z0 z1
  generalize hbb : decide (Mem xs n s) = b at *
  have HBB := Lib.hid hbb
  clear hbb; go_wp2; go_ret
  have e9 := HBB.out
  subst e9
  exact ⟨rfl, C2.out⟩
 ·
  have eH : hasE xs n s = false := by unfold hasE; rw [decide_eq_false (by omega)]; rfl
  rw [eH]
  clear eH
  go_enter Tryz.func65, Tryz.ntmps65
  go_wp2_with fail
  rw [← W0.out]
  generalize w.heap.size = g0 at *
  refine (pacheck_any w0 A _ c xs H.out HN.out).mono ?_
  rintro e w1 ⟨rfl, h1⟩
  rw [e1]
  have C1 := Lib.hid h1
  clear h1; go_wp2; go_ret
  exact ⟨rfl, C0.out.trans C1.out⟩
end
end Go.Proofs.YtomgjogkkoigbaaGreatDoor
