/- The kit's CopyEvents. A row of structs: one cell of one of them is stored. No program here. Lists of events in memory of their own. slices.Insert of one event. A row of nil has no elements. A row that the library has sorted, or cleared from some place on. slices.SortFunc at structs under a 'cmp' that need not part any two: what was there, in order. Events by their dots. slices.Grow of nothing, slices.Concat of rows of events. past.Has: how a span lies to a dot. past.Has: a dot is looked for. past.Has. -/
import Derived.Test.YtehmchdhlhchjaaGreatDoorZepd
import Derived.Test.YtehmchdhlhchjaaGreatDoorZepe
import Derived.Test.YtehmchdhlhchjaaGreatDoorZepi
import Derived.Deep.Cut
import Derived.Test.YtehmchdhlhchjaaGreatDoorZepa
import Derived.BigQuiet
import Derived.Shelf.SlSortCmp.NoneTotal
import Derived.Lib.SlicesCompact
import Derived.Lib.SliceRun
import Derived.Test.YtehmchdhlhchjaaGreatDoorZepb
import Derived.Deep.RegionHeld3
set_option linter.unusedSimpArgs false
set_option linter.unusedVariables false
set_option maxHeartbeats 32000000
namespace Go.Proofs.YtehmchdhlhchjaaGreatDoor
section
open Go.RowKit Go.Lib


theorem fresh_appE {w2 w w' : World} {A A' : Option Addr} (hA : ∀ a, A = some a → w2.heap.size ≤ a.block) (hC : Chg [] w2 w) (g : w.grownBy w' (A.map (·.block))) (e : A' = A ∨ A' = some ⟨w.heap.size, 0, none⟩) :
  (∀ a, A' = some a → w2.heap.size ≤ a.block) ∧ Chg [] w2 w' := by
 refine ⟨?_, hC.grown g ?_⟩
 ·
  rintro a ha
  rcases e with rfl | rfl
  ·
   exact hA a ha
  ·
   cases ha; exact hC.size
 ·
  rintro i hi
  cases A with
  | none => simp at hi
  | some a => simp at hi; subst hi; exact .inr (hA a rfl)
theorem rd_oneEc {w : World} {g : Nat} {X : EvT} (h : w.heap[g]? = some (.cells #[.int .i64 X.n, .int .i64 X.s, .string X.p, .int .i64 X.k, .int .i64 X.m, .slice X.A X.l X.c, .slice X.B X.bl X.bc] 40)) : RdK evTy w (some ⟨g, 0, none⟩) 1 [X] :=
 ⟨rfl, fun j v hj => ⟨_, rfl, by rw [add_zero_lit, cell_of h j]; simpa [RowTy.flat, evTy] using hj⟩⟩
def ApartE (w : World) (A : Option Addr) (xs : List EvT) : Prop := ∀ x ∈ xs, (∀ a, x.A = some a → a.block < w.heap.size ∧ ∀ b, A = some b → a.block ≠ b.block) ∧ (∀ a, x.B = some a → a.block < w.heap.size ∧ ∀ b, A = some b → a.block ≠ b.block) ∧ x.bl ≤ x.bc ∧ x.bc ≤ maxLen
theorem EvsR.snoc {w : World} {xs : List EvT} {es : List EvP} {x : EvT} {e : EvP} (h : EvsR w xs es) (r : EvR w x e) : EvsR w (xs ++ [x]) (es ++ [e]) := by
 refine ⟨by simp [h.1], fun i y f hy hf => ?_⟩
 by_cases q : i < xs.length
 ·
  rw [List.getElem?_append_left q] at hy
  rw [List.getElem?_append_left (by rw [← h.1]; exact q)] at hf
  exact h.2 i y f hy hf
 ·
  rw [List.getElem?_append_right (by omega)] at hy
  rw [List.getElem?_append_right (by rw [← h.1]; omega), ← h.1] at hf
  have hi := (List.getElem?_eq_some_iff.1 hy).1
  simp at hi
  rw [hi] at hy hf
  simp at hy hf
  subst hy hf
  exact r
theorem EvR.chgS {S : List Nat} {w w' : World} {x : EvT} {e : EvP} (h : EvR w x e) (hc : Chg S w w') (hA : ∀ a, x.A = some a → a.block ∉ S) (hB : ∀ a, x.B = some a → a.block ∉ S) : EvR w' x e := ⟨h.n, h.s, h.p, h.k, h.m, h.l, h.bl, h.A.chg hc hA, h.B.chg hc hB⟩
theorem EvsR.chgS {S : List Nat} {w w' : World} {xs : List EvT} {es : List EvP} (h : EvsR w xs es) (hc : Chg S w w') (hS : ∀ x ∈ xs, (∀ a, x.A = some a → a.block ∉ S) ∧ (∀ a, x.B = some a → a.block ∉ S)) : EvsR w' xs es :=
 ⟨h.1, fun i x e hx he => (h.2 i x e hx he).chgS hc (hS x (List.mem_of_getElem? hx)).1 (hS x (List.mem_of_getElem? hx)).2⟩
set_option maxRecDepth 100000 in
theorem copyevs_any (w : World) (A : Option Addr) (c : Nat) (xs : List EvT) (es : List EvP) (h : RdK evTy w A xs.length xs) (hx : EvsR w xs es) (hn : xs.length ≤ 100000) (hq : ∀ e ∈ es, e.b.length ≤ 140737488351232 ∧ e.q.length ≤ 100000) :
  Calls Tryz.prog 7 #[.slice A xs.length c] w fun r w' => ∃ (A' : Option Addr) (c' : Nat) (ys : List EvT), r = .returned (.slice A' ys.length c') ∧ ys.length = xs.length ∧ OwnK evTy w' A' c' ys ∧ EvsR w' ys es ∧ ApartE w' A' ys ∧ (∀ a, A' = some a → w.heap.size ≤ a.block) ∧ Chg [] w w' := by
 have HA := h_ h
 have HX := h_ hx
 have HN := h_ hn
 have HQ := h_ hq
 clear h hx hn hq
 go_enter Tryz.func7, Tryz.ntmps7
 go_wp2
 go_loopw [3, 4] (fun o i wr => ∃ (k : Nat) (A1 : Option Addr) (d1 : Nat) (ys : List EvT), k ≤ xs.length ∧ ys.length = k ∧ i = .int .i64 k ∧ o = .slice A1 ys.length d1 ∧ Hid (OwnK evTy wr A1 d1 ys) ∧ Hid (EvsR wr ys (es.take k)) ∧ Hid (ApartE wr A1 ys) ∧ Hid (∀ a, A1 = some a → w.heap.size ≤ a.block) ∧ Hid (Chg [] w wr)) (fun _ i _ => xs.length - (RowKit.intOf i).toNat)
 case atStart => exact ⟨0, none, 0, [], Nat.zero_le _, rfl, rfl, rfl, OwnK.none_ _, h_ (by simpa using EvsR.nil _), h_ (fun x hx => by simp at hx), h_ (by simp), Chg.refl _ _⟩
 case round =>
  obtain ⟨k, A1, d1, ys, hk, hyl, rfl, rfl, RO, RE, RA, RN, RC⟩ := hrel
  have i0 : (0 : Int) ≤ (k : Int) := by omega
  by_cases hlt : k < xs.length
  ·
   have i1 : (k : Int) < (xs.length : Int) := by omega
   have i3 : IntKind.i64.wrap ((k : Int) + 1) = (k : Int) + 1 := IntWalk.i64_in _ (by have := HN.out; omega)
   obtain ⟨g, o, eA, _⟩ := HA.out.line (by omega)
   subst eA
   obtain ⟨x, e, ex, ee, rx⟩ := HX.out.at_ hlt
   obtain ⟨z0, z1, z2, z3, z4, z5, z6⟩ := evCells (HA.out.chg RC.out (by simp)) ex
   have RX := h_ rx
   have ET : Hid (es.take (k + 1) = es.take k ++ [e]) := h_ (by rw [List.take_add_one, ee]; rfl)
   have EQ := h_ (HQ.out e (List.mem_of_getElem? ee))
   have YL := h_ hyl
   clear ex ee rx hyl; go_wp2_with fail; clear z0 z1 z2 z3 z4 z5 z6
   refine (copyev_any wr x e (RX.out.chg RC.out) EQ.out).mono ?_
   rintro r w2 ⟨A', c', B', d', rfl, hR, hA, hB, hnA, hnB, hne, hc⟩
   obtain ⟨X, hX⟩ : ∃ X : EvT, X = ⟨x.n, x.s, x.p, x.k, x.m, A', x.l, c', B', x.bl, d'⟩ := ⟨_, rfl⟩
   rw [← hX] at hR
   have fX : X.A = A' ∧ X.B = B' := by rw [hX]; exact ⟨rfl, rfl⟩
   have KA : Hid (∀ a, X.A = some a → a.block < w2.heap.size ∧ wr.heap.size ≤ a.block) := h_ (fun a ha => by rw [fX.1] at ha; exact ⟨hA.lt a ha, hnA a ha⟩)
   have KB : Hid (∀ a, X.B = some a → a.block < w2.heap.size ∧ wr.heap.size ≤ a.block) := h_ (fun a ha => by rw [fX.2] at ha; exact ⟨hB.lt_ a ha, hnB a ha⟩)
   have KC : Hid (X.bl ≤ X.bc ∧ X.bc ≤ maxLen) := h_ (by have q := hB.cap; rw [hX]; show x.bl ≤ d' ∧ d' ≤ maxLen; have := RX.out.bl; exact ⟨by omega, q.2⟩)
   have LA1 := h_ RO.out.lt_
   have XR := h_ hR
   replace RO := h_ (RO.out.chg hc (by simp))
   replace RE := h_ (RE.out.chg hc)
   have S2 := h_ hc.size
   replace RC := h_ (RC.out.trans hc)
   have EX : Hid (Value.agg #[.int .i64 x.n, .int .i64 x.s, .string x.p, .int .i64 x.k, .int .i64 x.m, .slice A' x.l c', .slice B' x.bl d'] = .agg #[.int .i64 X.n, .int .i64 X.s, .string X.p, .int .i64 X.k, .int .i64 X.m, .slice X.A X.l X.c, .slice X.B X.bl X.bc]) := h_ (by rw [hX])
   rw [EX.out]
   clear hR hA hB hnA hnB hne hc hX fX EX
   obtain ⟨w3, hw, hc, b3⟩ := news1 w2 (.cells #[.int .i64 X.n, .int .i64 X.s, .string X.p, .int .i64 X.k, .int .i64 X.m, .slice X.A X.l X.c, .slice X.B X.bl X.bc] 40)
   have W3 := h_ hw
   have R3 := h_ (rd_oneEc b3)
   replace RO := h_ (RO.out.chg hc (by simp))
   replace RE := h_ (RE.out.chg hc)
   replace XR := h_ (XR.out.chg hc)
   have S3 := h_ hc.size
   replace RC := h_ (RC.out.trans hc)
   clear hw hc b3
   have N4 : Hid ((ys.length + 1) * 400 ≤ 140737488355327) := h_ (by have := YL.out; have := HN.out; omega)
   go_wp2_with (at_builtin; rw [← W3.out]; refine wpList_appK (R := evTy) rfl (.tmp 11) (.tmp 17) rfl rfl (A := A1) (n := ys.length) (m := 1) (c := d1) (d := 1) (xs := ys) (ys := [X]) RO.out rfl rfl R3.out N4.out ?_; intro A7 c7 w7 o7 g7 e7; have O7 := h_ o7; have F7 := h_ (fresh_appE RN.out RC.out g7 e7); have G7 := h_ g7; have E7 := h_ e7; clear o7 g7 e7)
   have CG : Hid (Chg (blkOf A1) w3 w7) := h_ ((Chg.refl (blkOf A1) w3).grown G7.out (fun i hi => by
    cases A1 with
    | none => simp at hi
    | some a => simp at hi; subst hi; exact .inl (mem_blkOf rfl)))
   have RE7 : Hid (EvsR w7 (ys ++ [X]) (es.take (k + 1))) := h_ (by
    rw [ET.out]
    refine EvsR.snoc (RE.out.chgS CG.out (fun y hy => ⟨fun a ha q => ?_, fun a ha q => ?_⟩)) (XR.out.chgS CG.out (fun a ha q => ?_) (fun a ha q => ?_))
    ·
     obtain ⟨b, hb, e⟩ := of_blkOf q; exact ((RA.out y hy).1 a ha).2 b hb e.symm
    ·
     obtain ⟨b, hb, e⟩ := of_blkOf q; exact ((RA.out y hy).2.1 a ha).2 b hb e.symm
    ·
     obtain ⟨b, hb, e⟩ := of_blkOf q; have := LA1.out b hb; have := (KA.out a ha).2; omega
    ·
     obtain ⟨b, hb, e⟩ := of_blkOf q; have := LA1.out b hb; have := (KB.out a ha).2; omega)
   have RA7 : Hid (ApartE w7 A7 (ys ++ [X])) := h_ (fun y hy => by
    have s7 := CG.out.size
    have s3 := S3.out
    have s2 := S2.out
    have lo : ∀ a : Addr, a.block < w3.heap.size → (∀ b, A1 = some b → a.block ≠ b.block) → a.block < w7.heap.size ∧ ∀ b, A7 = some b → a.block ≠ b.block := fun a h1 h2 => ⟨by omega, fun b hb => by
     rcases E7.out with q | q
     ·
      rw [q] at hb; exact h2 b hb
     ·
      rw [q] at hb; cases hb; exact Nat.ne_of_lt h1⟩
    rcases List.mem_append.1 hy with r | r
    ·
     exact ⟨fun a ha => lo a (by have := ((RA.out y r).1 a ha).1; omega) ((RA.out y r).1 a ha).2, fun a ha => lo a (by have := ((RA.out y r).2.1 a ha).1; omega) ((RA.out y r).2.1 a ha).2, (RA.out y r).2.2⟩
    ·
     simp at r
     subst r
     exact ⟨fun a ha => lo a (by have := (KA.out a ha).1; omega) (fun b hb => by have := LA1.out b hb; have := (KA.out a ha).2; omega), fun a ha => lo a (by have := (KB.out a ha).1; omega) (fun b hb => by have := LA1.out b hb; have := (KB.out a ha).2; omega), KC.out⟩)
   clear CG G7 E7 RO RE RA; go_wp2; go_round
   case rel => exact ⟨k + 1, A7, c7, ys ++ [X], by omega, by simp [YL.out], by go_num, by simp, O7, RE7, RA7, h_ F7.out.1, F7.out.2⟩
   case measure => simp [RowKit.intOf]; omega
  ·
   obtain rfl : k = xs.length := by omega
   have i1 : ¬ (xs.length : Int) < (xs.length : Int) := by omega
   have ET : es.take xs.length = es := by rw [HX.out.1]; exact List.take_length
   rw [ET] at RE
   have YL := h_ hyl
   clear hyl ET; go_wp2; go_ret
   exact ⟨A1, d1, ys, rfl, YL.out, RO.out, RE.out, RA.out, RN.out, RC.out⟩
end
section
variable {α : Type} {R : RowTy α}
theorem flat_set (full : List α) (j i : Nat) (x x' : α) (v : Value) (hx : full[j]? = some x) (hi : i < R.k) (he : ∀ q, q < R.k → (R.enc x')[q]? = if q = i then some v else (R.enc x)[q]?) :
  (R.flat full).set (j * R.k + i) v = R.flat (full.set j x') := by
 have hj := (List.getElem?_eq_some_iff.1 hx).1
 have hb : j * R.k + i < full.length * R.k := by
  have : (j + 1) * R.k ≤ full.length * R.k := Nat.mul_le_mul_right _ hj
  rw [Nat.add_mul, Nat.one_mul] at this
  omega
 refine R.flat_ext _ _ (by rw [List.length_set, R.flat_len, List.length_set]) (fun q p y hy hp => ?_)
 rw [List.getElem?_set] at hy
 rw [List.getElem?_set, R.flat_len]
 by_cases e : j = q
 ·
  subst e
  rw [if_pos rfl, if_pos hj] at hy
  cases hy
  rw [he p hp]
  by_cases e2 : p = i
  ·
   subst e2
   rw [if_pos rfl, if_pos hb, if_pos rfl]
  ·
   rw [if_neg (by omega), if_neg e2, R.flat_at full j p x hx hp]
 ·
  rw [if_neg e] at hy
  rw [if_neg, R.flat_at full q p y hy hp]
  intro e3
  rcases Nat.lt_or_gt_of_ne e with h | h
  ·
   have : (j + 1) * R.k ≤ q * R.k := Nat.mul_le_mul_right _ h
   rw [Nat.add_mul, Nat.one_mul] at this
   omega
  ·
   have : (q + 1) * R.k ≤ j * R.k := Nat.mul_le_mul_right _ h
   rw [Nat.add_mul, Nat.one_mul] at this
   omega
theorem OwnK.setc {w : World} {g c : Nat} {xs : List α} (h : OwnK R w (some ⟨g, 0, none⟩) c xs) (j i : Nat) (x x' : α) (v : Value) (hx : xs[j]? = some x) (hi : i < R.k) (he : ∀ q, q < R.k → (R.enc x')[q]? = if q = i then some v else (R.enc x)[q]?) :
  OwnK R (w.setCell ⟨g, j * R.k + i, none⟩ v) (some ⟨g, 0, none⟩) c (xs.set j x') := by
 have hj := (List.getElem?_eq_some_iff.1 hx).1
 rcases h with ⟨h, _⟩ | ⟨g', full, e, hg, h1, h2, h3, h4⟩
 ·
  cases h
 ·
  cases e
  have hx' : full[j]? = some x := by
   rw [← h4, List.getElem?_take, if_pos hj] at hx
   exact hx
  refine OwnK.of (full := full.set j x') ?_ (by simpa using h3) h2 (by simpa using h1) ?_
  ·
   have := heap_setCell_same w g (j * R.k + i) _ _ v hg
   rw [this, List.setIfInBounds_toArray, flat_set full j i x x' v hx' hi he]
  ·
   rw [List.length_set, List.take_set, h4]
end
section
open Go.RowKit Go.Lib

theorem RowTy.run_mk {α : Type} (R : RowTy α) (n : Nat) (h : n ≤ 1000000) (w : World) : (Instr.makeSlice R.TS (.int .i64 (n : Int)) (.int .i64 (n : Int))).run Tryz.prog w = .ok (.slice (some ⟨w.heap.size, 0, none⟩) n n) (w.alloc (.cells (R.flat (List.replicate n R.z)).toArray R.T)) := by
 have hinf := R.info
 obtain ⟨i0, hi, hm⟩ := Option.map_eq_some_iff.1 hinf
 have hz : i0.zero = some R.zv := congrArg Prod.fst hm
 have hs : i0.size = R.k := congrArg (fun p => p.2.1) hm
 have hb : i0.bytes = R.bytes := congrArg (fun p => p.2.2) hm
 have hr := run_make (P := Tryz.prog) w R.TS R.T i0 R.zv R.under hi hz .i64 .i64 n n (by omega) (by omega) (by rw [hb]; have := R.bpos; have : (R.bytes : Int) * (n : Int) ≤ 200 * (n : Int) := Int.mul_le_mul_of_nonneg_right (by omega) (by omega); omega) (by omega)
 rw [hr, hs, Int.toNat_natCast]
 have hk : R.zv.cells.size = R.k := by rw [← Array.length_toList, R.zc, R.klen]
 have e : madeCells R.zv.cells (n * R.k) = (R.flat (List.replicate n R.z)).toArray := by
  rw [← R.zeros]
  unfold madeCells Builtin.zeroCells
  simp [hk]
 rw [e]
theorem setE_k {xs : List EvT} {j : Nat} {y : EvT} (x : EvT) (h : xs[j]? = some y) : (xs.set j x)[j]? = some x := by
 rw [List.getElem?_set]
 simp [(List.getElem?_eq_some_iff.1 h).1]
theorem OwnK.set7 {w : World} {g c : Nat} {xs : List EvT} (h : OwnK evTy w (some ⟨g, 0, none⟩) c xs) (j : Nat) (y x : EvT) (hx : xs[j]? = some y) :
  OwnK evTy (((((((w.setCell ⟨g, j * 7, none⟩ (.int .i64 x.n)).setCell ⟨g, j * 7 + 1, none⟩ (.int .i64 x.s)).setCell ⟨g, j * 7 + 2, none⟩ (.string x.p)).setCell ⟨g, j * 7 + 3, none⟩ (.int .i64 x.k)).setCell ⟨g, j * 7 + 4, none⟩ (.int .i64 x.m)).setCell ⟨g, j * 7 + 5, none⟩ (.slice x.A x.l x.c)).setCell ⟨g, j * 7 + 6, none⟩ (.slice x.B x.bl x.bc)) (some ⟨g, 0, none⟩) c (xs.set j x) := by
 have a0 := h.setc j 0 y ⟨x.n, y.s, y.p, y.k, y.m, y.A, y.l, y.c, y.B, y.bl, y.bc⟩ (.int .i64 x.n) hx (by decide) (fun q hq => by rcases q with _ | _ | _ | _ | _ | _ | _ | q <;> rfl)
 have a1 := a0.setc j 1 _ ⟨x.n, x.s, y.p, y.k, y.m, y.A, y.l, y.c, y.B, y.bl, y.bc⟩ (.int .i64 x.s) (setE_k _ hx) (by decide) (fun q hq => by rcases q with _ | _ | _ | _ | _ | _ | _ | q <;> rfl)
 rw [List.set_set] at a1
 have a2 := a1.setc j 2 _ ⟨x.n, x.s, x.p, y.k, y.m, y.A, y.l, y.c, y.B, y.bl, y.bc⟩ (.string x.p) (setE_k _ hx) (by decide) (fun q hq => by rcases q with _ | _ | _ | _ | _ | _ | _ | q <;> rfl)
 rw [List.set_set] at a2
 have a3 := a2.setc j 3 _ ⟨x.n, x.s, x.p, x.k, y.m, y.A, y.l, y.c, y.B, y.bl, y.bc⟩ (.int .i64 x.k) (setE_k _ hx) (by decide) (fun q hq => by rcases q with _ | _ | _ | _ | _ | _ | _ | q <;> rfl)
 rw [List.set_set] at a3
 have a4 := a3.setc j 4 _ ⟨x.n, x.s, x.p, x.k, x.m, y.A, y.l, y.c, y.B, y.bl, y.bc⟩ (.int .i64 x.m) (setE_k _ hx) (by decide) (fun q hq => by rcases q with _ | _ | _ | _ | _ | _ | _ | q <;> rfl)
 rw [List.set_set] at a4
 have a5 := a4.setc j 5 _ ⟨x.n, x.s, x.p, x.k, x.m, x.A, x.l, x.c, y.B, y.bl, y.bc⟩ (.slice x.A x.l x.c) (setE_k _ hx) (by decide) (fun q hq => by rcases q with _ | _ | _ | _ | _ | _ | _ | q <;> rfl)
 rw [List.set_set] at a5
 have a6 := a5.setc j 6 _ x (.slice x.B x.bl x.bc) (setE_k _ hx) (by decide) (fun q hq => by rcases q with _ | _ | _ | _ | _ | _ | _ | q <;> rfl)
 rw [List.set_set] at a6
 exact a6
theorem Chg.set7 {S : List Nat} {w0 w : World} {g : Nat} (h : Chg S w0 w) (hg : g ∈ S ∨ w0.heap.size ≤ g) (o : Nat) (v0 v1 v2 v3 v4 v5 v6 : Value) :
  Chg S w0 (((((((w.setCell ⟨g, o, none⟩ v0).setCell ⟨g, o + 1, none⟩ v1).setCell ⟨g, o + 2, none⟩ v2).setCell ⟨g, o + 3, none⟩ v3).setCell ⟨g, o + 4, none⟩ v4).setCell ⟨g, o + 5, none⟩ v5).setCell ⟨g, o + 6, none⟩ v6) :=
 ((((((h.setCell (p := ⟨g, o, none⟩) hg v0).setCell (p := ⟨g, o + 1, none⟩) hg v1).setCell (p := ⟨g, o + 2, none⟩) hg v2).setCell (p := ⟨g, o + 3, none⟩) hg v3).setCell (p := ⟨g, o + 4, none⟩) hg v4).setCell (p := ⟨g, o + 5, none⟩) hg v5).setCell (p := ⟨g, o + 6, none⟩) hg v6
structure OwnEs (w : World) (lo hi : Nat) (G : Option Addr) (ys : List EvT) (es : List EvP) : Prop where
 ev : EvsR w ys es
 own : ∀ (i : Nat) (y : EvT) (e : EvP), ys[i]? = some y → es[i]? = some e → OwnB w y.A y.c e.b ∧ OwnK spanTy w y.B y.bc e.q
 at_ : ∀ y ∈ ys, ∀ a, (y.A = some a ∨ y.B = some a) → lo ≤ a.block ∧ a.block < hi ∧ ∀ b, G = some b → a.block ≠ b.block
 two : ∀ y ∈ ys, ∀ a b, y.A = some a → y.B = some b → a.block ≠ b.block
 apart : ys.Pairwise (fun y z => ∀ a b, (y.A = some a ∨ y.B = some a) → (z.A = some b ∨ z.B = some b) → a.block ≠ b.block)
theorem OwnEs.nil (w : World) (lo hi : Nat) (G : Option Addr) : OwnEs w lo hi G [] [] := ⟨EvsR.nil _, fun i y e h => by simp at h, fun y h => by simp at h, fun y h => by simp at h, List.Pairwise.nil⟩
theorem OwnEs.chg {S : List Nat} {w w' : World} {lo hi : Nat} {G : Option Addr} {ys : List EvT} {es : List EvP} (h : OwnEs w lo hi G ys es) (hc : Chg S w w') (hS : ∀ i ∈ S, (lo ≤ i ∧ i < hi) → ∃ b, G = some b ∧ b.block = i) : OwnEs w' lo hi G ys es := by
 have no : ∀ y ∈ ys, ∀ a, (y.A = some a ∨ y.B = some a) → a.block ∉ S := fun y hy a ha q => by
  obtain ⟨l, u, d⟩ := h.at_ y hy a ha
  obtain ⟨b, hb, e⟩ := hS _ q ⟨l, u⟩
  exact d b hb e.symm
 refine ⟨h.ev.chgS hc (fun x hx => ⟨fun a ha => no x hx a (.inl ha), fun a ha => no x hx a (.inr ha)⟩), fun i y e hy he => ?_, h.at_, h.two, h.apart⟩
 obtain ⟨a, b⟩ := h.own i y e hy he
 exact ⟨a.chg hc (fun a ha => no y (List.mem_of_getElem? hy) a (.inl ha)), b.chg hc (fun a ha => no y (List.mem_of_getElem? hy) a (.inr ha))⟩
theorem OwnEs.mono {w : World} {lo hi hi' : Nat} {G : Option Addr} {ys : List EvT} {es : List EvP} (h : OwnEs w lo hi G ys es) (hh : hi ≤ hi') : OwnEs w lo hi' G ys es :=
 ⟨h.ev, h.own, fun y hy a ha => ⟨(h.at_ y hy a ha).1, by have := (h.at_ y hy a ha).2.1; omega, (h.at_ y hy a ha).2.2⟩, h.two, h.apart⟩
theorem OwnEs.low {w : World} {lo lo' hi : Nat} {G : Option Addr} {ys : List EvT} {es : List EvP} (h : OwnEs w lo hi G ys es) (hh : lo' ≤ lo) : OwnEs w lo' hi G ys es :=
 ⟨h.ev, h.own, fun y hy a ha => ⟨by have := (h.at_ y hy a ha).1; omega, (h.at_ y hy a ha).2⟩, h.two, h.apart⟩
theorem OwnEs.snoc {w : World} {lo hi hi' : Nat} {G : Option Addr} {ys : List EvT} {es : List EvP} {x : EvT} {e : EvP} (h : OwnEs w lo hi G ys es) (hh : lo ≤ hi ∧ hi ≤ hi') (r : EvR w x e) (hA : OwnB w x.A x.c e.b) (hB : OwnK spanTy w x.B x.bc e.q) (ha : ∀ a, (x.A = some a ∨ x.B = some a) → hi ≤ a.block ∧ a.block < hi' ∧ ∀ b, G = some b → a.block ≠ b.block) (h2 : ∀ a b, x.A = some a → x.B = some b → a.block ≠ b.block) : OwnEs w lo hi' G (ys ++ [x]) (es ++ [e]) := by
 refine ⟨h.ev.snoc r, fun i y f hy hf => ?_, fun y hy a q => ?_, fun y hy => ?_, ?_⟩
 ·
  by_cases q : i < ys.length
  ·
   rw [List.getElem?_append_left q] at hy
   rw [List.getElem?_append_left (by rw [← h.ev.1]; exact q)] at hf
   exact h.own i y f hy hf
  ·
   rw [List.getElem?_append_right (by omega)] at hy
   rw [List.getElem?_append_right (by rw [← h.ev.1]; omega), ← h.ev.1] at hf
   have hi := (List.getElem?_eq_some_iff.1 hy).1
   simp at hi
   have e0 : i - ys.length = 0 := by omega
   rw [e0] at hy hf
   cases hy
   cases hf
   exact ⟨hA, hB⟩
 ·
  rcases List.mem_append.1 hy with r | r
  ·
   have := h.at_ y r a q
   exact ⟨this.1, by omega, this.2.2⟩
  ·
   simp at r; subst r
   have := ha a q
   exact ⟨by omega, this.2⟩
 ·
  rcases List.mem_append.1 hy with r | r
  ·
   exact h.two y r
  ·
   simp at r; subst r; exact h2
 ·
  rw [List.pairwise_append]
  refine ⟨h.apart, List.pairwise_singleton _ _, fun y hy z hz a b p q => ?_⟩
  simp at hz
  subst hz
  have := (h.at_ y hy a p).2.1
  have := (ha b q).1
  omega
structure EsF (w : World) (lo hi : Nat) (A : Option Addr) (c : Nat) (ys : List EvT) (es : List EvP) : Prop where
 row : OwnK evTy w A c ys
 rowAt : ∀ a, A = some a → lo ≤ a.block ∧ a.block < hi
 all : OwnEs w lo hi A ys es
theorem EsF.chg {S : List Nat} {w w' : World} {lo hi : Nat} {A : Option Addr} {c : Nat} {ys : List EvT} {es : List EvP} (h : EsF w lo hi A c ys es) (hc : Chg S w w') (hS : ∀ i ∈ S, ¬ (lo ≤ i ∧ i < hi)) : EsF w' lo hi A c ys es :=
 ⟨h.row.chg hc (fun a ha q => hS _ q (h.rowAt a ha)), h.rowAt, h.all.chg hc (fun i hi q => absurd q (hS i hi))⟩
theorem EsF.nil (w : World) (lo hi : Nat) : EsF w lo hi none 0 [] [] := ⟨OwnK.none_ _, (fun a h => by cases h), OwnEs.nil _ _ _ _⟩
end
section
open Go.RowKit Go.Lib

theorem rdk_nil {α : Type} {R : RowTy α} {w : World} {n : Nat} {xs : List α} (h : RdK R w none n xs) : xs = [] := by
 cases xs with
 | nil => rfl
 | cons y ys =>
  have : 0 < (R.flat (y :: ys)).length := by rw [R.flat_len, List.length_cons]; exact Nat.mul_pos (by omega) R.kpos
  obtain ⟨a, h, _⟩ := h.cells 0 _ (List.getElem?_eq_getElem this); cases h
end
section
open Go.RowKit Go.Sort
section
variable {α : Type} [Inhabited α] {R : RowTy α}

theorem flatK_flat (d : Array α) : (flatK R.enc R.k d).toList = R.flat d.toList := by
 refine R.flat_ext _ _ (by simp) ?_
 intro q i x hx hi
 rw [Array.getElem?_toList] at hx ⊢
 have hq : q < d.size := (Array.getElem?_eq_some_iff.1 hx).1
 have hlt : q * R.k + i < d.size * R.k := by
  have := Nat.mul_le_mul_right R.k (show q + 1 ≤ d.size by omega)
  rw [Nat.succ_mul] at this
  omega
 have e := get_flatK R.enc R.k d (q * R.k + i) hlt
 have h1 : (q * R.k + i) / R.k = q := by
  rw [Nat.add_comm, Nat.add_mul_div_right _ _ R.kpos, Nat.div_eq_of_lt hi, Nat.zero_add]
 have h2 : (q * R.k + i) % R.k = i := by rw [Nat.add_comm, Nat.add_mul_mod_self_right, Nat.mod_eq_of_lt hi]
 rw [h1, h2] at e
 have hd : d[q]! = x := by
  rw [getElem!_pos d q hq]
  rw [Array.getElem?_eq_getElem hq] at hx
  exact Option.some.inj hx
 rw [hd] at e
 have hs : q * R.k + i < (flatK R.enc R.k d).size := by simpa using hlt
 rw [getElem!_pos (flatK R.enc R.k d) _ hs] at e
 have hi2 : i < (R.enc x).length := by rw [R.klen]; exact hi
 rw [getElem!_pos (R.enc x) _ hi2] at e
 rw [Array.getElem?_eq_getElem hs, List.getElem?_eq_getElem hi2, e]
theorem OwnK.holds {w : World} {g c : Nat} {xs : List α} (h : OwnK R w (some ⟨g, 0, none⟩) c xs) : HoldsK R.enc R.k w g 0 xs.toArray := by
 rcases h with ⟨h, _⟩ | ⟨g', full, h, hg, hl, _, hn, ht⟩
 ·
  cases h
 ·
  cases h
  intro j hj
  refine ⟨?_, free_of hg _⟩
  rw [Nat.zero_add, cell_of hg]
  have hs : j < (flatK R.enc R.k xs.toArray).size := hj
  rw [getElem!_pos (flatK R.enc R.k xs.toArray) _ hs]
  have e := flatK_flat (R := R) xs.toArray
  simp only at e
  have e2 : (flatK R.enc R.k xs.toArray)[j]? = (R.flat xs)[j]? := by rw [← Array.getElem?_toList, e]
  rw [Array.getElem?_eq_getElem hs] at e2
  have e3 : (R.flat full)[j]? = (R.flat xs)[j]? := by
   have hj2 : j < xs.length * R.k := by simpa using hj
   conv => rhs; rw [← ht, R.flat_take, List.getElem?_take, if_pos hj2]
  show (R.flat full).toArray[j]? = some (id _)
  rw [List.getElem?_toArray, e3, ← e2]
  rfl
theorem putCells_flat (xs ys full : List α) (hl : ys.length = xs.length) (hf : full.take xs.length = xs) (hn : xs.length ≤ full.length) :
  (putCells id 0 (flatK R.enc R.k ys.toArray) (R.flat full).toArray) = (R.flat (ys ++ full.drop xs.length)).toArray := by
 apply Array.toList_inj.1
 apply List.ext_getElem?
 intro p
 have hsz : (flatK R.enc R.k ys.toArray).size = xs.length * R.k := by simp [hl]
 rw [show (R.flat (ys ++ full.drop xs.length)).toArray.toList = R.flat (ys ++ full.drop xs.length) by simp, R.flat_app, R.flat_drop]
 rw [Array.getElem?_toList]
 unfold putCells
 rw [Array.getElem?_mapIdx, List.getElem?_toArray]
 by_cases hp : p < xs.length * R.k
 ·
  have hs : p < (flatK R.enc R.k ys.toArray).size := by omega
  have hp2 : p < (R.flat full).length := by rw [R.flat_len]; exact Nat.lt_of_lt_of_le hp (Nat.mul_le_mul_right _ hn)
  rw [List.getElem?_append_left (by rw [R.flat_len, hl]; exact hp), List.getElem?_eq_getElem hp2]
  simp only [Option.map_some, Nat.zero_le, true_and, Nat.zero_add]
  rw [if_pos hs, Nat.sub_zero, getElem!_pos (flatK R.enc R.k ys.toArray) _ hs]
  have e := flatK_flat (R := R) ys.toArray
  have e2 : (flatK R.enc R.k ys.toArray)[p]? = (R.flat ys)[p]? := by rw [← Array.getElem?_toList, e]
  rw [← e2, Array.getElem?_eq_getElem hs]
  rfl
 ·
  rw [List.getElem?_append_right (by rw [R.flat_len, hl]; omega), R.flat_len, hl, List.getElem?_drop, show xs.length * R.k + (p - xs.length * R.k) = p by omega]
  cases (R.flat full)[p]? with
  | none => rfl
  | some v =>
   simp only [Option.map_some]
   rw [if_neg (by rw [hsz]; omega)]
theorem OwnK.sorted {w : World} {g c : Nat} {xs ys : List α} (h : OwnK R w (some ⟨g, 0, none⟩) c xs) (hl : ys.length = xs.length) (n : Nat) (os : Array Obj) :
  OwnK R (sortWorldK R.enc R.k w g 0 n ys.toArray os) (some ⟨g, 0, none⟩) c ys ∧ Chg [g] w (sortWorldK R.enc R.k w g 0 n ys.toArray os) := by
 rcases h with ⟨h, _⟩ | ⟨g', full, h, hg, hfl, hm, hn, ht⟩
 ·
  cases h
 ·
  cases h
  have hsz : (sortWorldK R.enc R.k w g 0 n ys.toArray os).heap = (w.heap.modify g (onCells (putCells id 0 (flatK R.enc R.k ys.toArray)))) ++ os := rfl
  have hgl := lt_of_heap hg
  refine ⟨.inr ⟨g, ys ++ full.drop xs.length, rfl, ?_, by simp; omega, hm, by omega, ?_⟩, ⟨rfl, rfl, rfl, by rw [hsz]; simp, fun i hi hne => ?_⟩⟩
  ·
   rw [hsz, Array.getElem?_append_left (by simpa using hgl), Array.getElem?_modify, if_pos rfl, hg]
   simp only [Option.map_some, onCells]
   rw [putCells_flat xs ys full hl ht (by omega)]
  ·
   exact List.take_left
  ·
   rw [hsz, Array.getElem?_append_left (by simpa using hi), Array.getElem?_modify, if_neg (by simp at hne; exact fun h => hne h.symm)]
end
end
section
open Go.RowKit Go.Sort Go.Shelf

theorem grow_ofp {w w' : World} (h : Chg [] w w') (hd : w.drawn ≤ w'.drawn) : ∃ q os, w' = Sort.grow (w.drewN q) os := by
 refine ⟨w'.drawn - w.drawn, w'.heap.extract w.heap.size w'.heap.size, ?_⟩
 obtain ⟨h1, h2, h3, h4, h5⟩ := h
 obtain ⟨hp, tp, dr, os, ou⟩ := w'
 obtain ⟨hp0, tp0, dr0, os0, ou0⟩ := w
 simp only at h1 h2 h3 h4 h5 hd ⊢
 subst h1 h2 h3
 simp only [Sort.grow, World.drewN, World.mk.injEq, true_and, and_true]
 refine ⟨?_, by omega⟩
 apply Array.ext_getElem?
 intro i
 by_cases hi : i < hp0.size
 ·
  rw [Array.getElem?_append_left hi]
  exact h5 i hi (by simp)
 ·
  rw [Array.getElem?_append_right (by omega), Array.getElem?_extract]
  by_cases hj : i < hp.size
  ·
   rw [if_pos (by omega)]
   congr 1
   omega
  ·
   rw [if_neg (by omega), Array.getElem?_eq_none (by omega)]
def CmpSays {α : Type} [Inhabited α] (R : RowTy α) (g : Nat) (cf : α → α → Int) : Prop :=
 ∀ (W : World) (x y : α), Calls Tryz.prog g #[.agg (R.enc x).toArray, .agg (R.enc y).toArray] W fun e w' => e = .returned (.int .i64 (cf x y)) ∧ Chg [] W w' ∧ W.drawn ≤ w'.drawn
theorem sortp_some {α : Type} [Inhabited α] {R : RowTy α} {ρ : Ren} (L : SlLaysF0.n6 Tryz.prog ρ) (aE : ∀ w, (isAgg (ρ.t 24)).run Tryz.prog w = .ok true w) (zE : ∀ w, (Go.sizeOf (ρ.t 24)).run Tryz.prog w = .ok R.k w) (cf : α → α → Int) (hO : SWO (ltOf cf)) (g : Nat) (eg : ∀ args w, (callFunc g args).run Tryz.prog w = .ok (.enter g args) w)
  (hcmp : CmpSays R g cf) (w : World) (b c : Nat) (xs : List α) (h : OwnK R w (some ⟨b, 0, none⟩) c xs) (hm : xs.length < 4611686018427387904) :
  Calls Tryz.prog (ρ.f 6) #[.slice (some ⟨b, 0, none⟩) xs.length c, .func (.func g) #[] #[]] w fun e w' => e = .returned (.tuple #[]) ∧ ∃ ys, ys.Perm xs ∧ ys.Pairwise (fun x y => ltOf cf y x = false) ∧ OwnK R w' (some ⟨b, 0, none⟩) c ys ∧ Chg [b] w w' := by
 have hblk : b < w.heap.size := h.lt_ _ rfl
 have hc2 : CmpLays Tryz.prog g #[] R.enc R.k cf b 0 xs.toArray.size w := fun m os dk _ x y => by
  have := (hcmp (sortWorldK R.enc R.k w b 0 m dk os) x y).mono (fun e w' ⟨he, hc, hd⟩ => (⟨he, grow_ofp hc hd⟩ : e = Ending.returned (.int .i64 (cf x y)) ∧ ∃ q os', w' = grow ((sortWorldK R.enc R.k w b 0 m dk os).drewN q) os'))
  exact this
 have hcon := AnyQ.slices_SortFunc L R.k aE zE R.enc R.klen R.one cf hO g #[] b 0 c xs.toArray w eg hc2 h.holds hblk (by simpa using hm)
 refine Calls.mono hcon ?_
 rintro e w' ⟨he, d', n, os, ⟨hsz, _, hp⟩, hs, hw⟩
 have hlen : d'.toList.length = xs.length := by simpa using hsz
 have hsz2 : d'.size = xs.toArray.size := hsz
 have hp2 : d'.toList.Perm xs := by
  rw [← hsz, Array.extract_size] at hp
  rw [hsz, Array.extract_size] at hp
  simpa using hp
 have o := h.sorted (ys := d'.toList) hlen n os
 rw [show d'.toList.toArray = d' by simp, ← hw] at o
 refine ⟨he, d'.toList, hp2, ?_, o.1, o.2⟩
 rw [List.pairwise_iff_getElem]
 intro i j hi hj hij
 have hi' : i < d'.size := by simpa using hi
 have hj' : j < d'.size := by simpa using hj
 have := hs i j (Nat.zero_le _) hij (by rw [← hsz2]; exact hj')
 rw [getElem!_pos d' j hj', getElem!_pos d' i hi'] at this
 simpa using this
theorem sortp_any {α : Type} [Inhabited α] {R : RowTy α} {ρ : Ren} (L : SlLaysF0.n6 Tryz.prog ρ) (aE : ∀ w, (isAgg (ρ.t 24)).run Tryz.prog w = .ok true w) (zE : ∀ w, (Go.sizeOf (ρ.t 24)).run Tryz.prog w = .ok R.k w) (cf : α → α → Int) (hO : SWO (ltOf cf)) (g : Nat) (eg : ∀ args w, (callFunc g args).run Tryz.prog w = .ok (.enter g args) w)
  (hcmp : CmpSays R g cf) (w : World) (A : Option Addr) (c : Nat) (xs : List α) (h : OwnK R w A c xs) (hm : xs.length < 4611686018427387904) :
  Calls Tryz.prog (ρ.f 6) #[.slice A xs.length c, .func (.func g) #[] #[]] w fun e w' => e = .returned (.tuple #[]) ∧ ∃ ys, ys.Perm xs ∧ ys.Pairwise (fun x y => ltOf cf y x = false) ∧ OwnK R w' A c ys ∧ Chg (blkOf A) w w' := by
 rcases h.shape with ⟨rfl, rfl, rfl⟩ | ⟨b, rfl, _⟩
 ·
  have := AnyF.slices_SortFunc_none L none 0 (.func (.func g) #[] #[]) w
  refine Calls.mono this ?_
  rintro e w' ⟨he, rfl⟩
  exact ⟨he, [], List.Perm.refl _, List.Pairwise.nil, OwnK.none_ _, Chg.refl _ _⟩
 ·
  exact sortp_some L aE zE cf hO g eg hcmp w b c xs h hm
end
section
open Go.RowKit Go.Lib


def Gr (w w' : World) : Prop := Chg [] w w' ∧ w.drawn ≤ w'.drawn
theorem Gr.trans {a b c : World} (h : Gr a b) (k : Gr b c) : Gr a c := ⟨h.1.trans k.1, Nat.le_trans h.2 k.2⟩
theorem gr2 (w : World) (o o' : Obj) : ∃ w' : World, w' = (w.alloc o).alloc o' ∧ Gr w w' ∧ w'.heap[w.heap.size]? = some o ∧ w'.heap[w.heap.size + 1]? = some o' := by
 obtain ⟨w', h, c, b0, b1⟩ := news2 w o o'
 exact ⟨w', h, ⟨c, by rw [h]; exact Nat.le_refl _⟩, b0, b1⟩
theorem dcmp_gr (w : World) (a s b t : Int) :
    Calls Tryz.prog 122 #[.agg #[.int .i64 a, .int .i64 s], .agg #[.int .i64 b, .int .i64 t]] w fun e w' => e = .returned (.int .i64 (cmpD a s b t)) ∧ Gr w w' := by
  obtain ⟨w0, hw0, c0, b0, b1⟩ := news2 w (.cells #[.int .i64 a, .int .i64 s] 35) (.cells #[.int .i64 b, .int .i64 t] 35)
  obtain ⟨k0, k1⟩ := ce2 b0
  obtain ⟨k3, k4⟩ := ce2 b1
  have g0 := lt_of_heap b0
  have g1 := lt_of_heap b1
  have W0 := h_ hw0
  have GR : Hid (∀ o, Gr w (w0.alloc o).drew) := h_ (fun o => ⟨(c0.alloc o).drew, by rw [hw0]; exact Nat.le_succ _⟩)
  clear hw0 c0 b0 b1
  unfold cmpD
  generalize hr : or2 (cmpI a b) (cmpI s t) = R
  have HR := h_ hr
  clear hr
  go_enter Tryz.func122, Tryz.ntmps122
  go_wp2
  rw [← W0.out]
  have n1 := World.new_ne w0 ⟨w.heap.size, 0, none⟩ k0
  have n2 := World.new_ne w0 ⟨w.heap.size + 1, 0, none⟩ k3
  generalize w.heap.size + 1 = s1 at *
  generalize w.heap.size = s0 at *
  go_region_held3 (fun w' => w'.cell? ⟨s0, 0, none⟩ = some (.int .i64 a) ∧ w'.cell? ⟨s0, 1, none⟩ = some (.int .i64 s) ∧ w'.cell? ⟨s1, 0, none⟩ = some (.int .i64 b) ∧ w'.cell? ⟨s1, 1, none⟩ = some (.int .i64 t)) (first | exact ⟨k0, k1, k3, k4⟩ | go_keep)
    ((first
      | (go_at_call 173; (with_reducible refine (cmpint_any _ _ _).mono ?_); rintro e w1 ⟨rfl, rfl⟩)
      | (go_at_call 172; refine (or2_any _ w0.heap.size (cmpI a b) (cmpI s t) (show (w0.alloc _).drew.heap[_]? = _ from heap_alloc_new w0 _)).mono ?_; rintro e w1 ⟨rfl, rfl⟩)))
  all_goals
    go_wp2; go_ret
    exact ⟨by first | rfl | (rw [← HR.out]; rfl), GR.out _⟩
theorem dless_gr (w : World) (a s b t : Int) :
  Calls Tryz.prog 74 #[.agg #[.int .i64 a, .int .i64 s], .agg #[.int .i64 b, .int .i64 t]] w fun e w' => e = .returned (.bool (decide (LtD a s b t))) ∧ Gr w w' := by
 have h : decide (cmpD a s b t < 0) = decide (LtD a s b t) := decide_eq_decide.2 cmpD_lt
 generalize decide (LtD a s b t) = B at *
 go_enter Tryz.func74, Tryz.ntmps74
 go_wp2_with fail
 refine (dcmp_gr _ _ _ _ _).mono ?_
 rintro e w1 ⟨rfl, c1⟩
 have C1 : Hid (Gr w w1) := h_ (Gr.trans ⟨((Chg.refl [] w).alloc _).alloc _, Nat.le_refl _⟩ c1)
 clear c1; go_wp2; go_ret
 exact ⟨rfl, C1.out⟩
theorem cmpD_is (a s b t : Int) : cmpD a s b t = if LtD a s b t then -1 else if LtD b t a s then 1 else 0 := by
 have h1 := @cmpD_lt a s b t
 unfold cmpD or2 cmpI at *
 unfold LtD
 split <;> split <;> (try split) <;> omega
set_option maxRecDepth 100000 in
theorem orderof_gr (w : World) (a s b t : Int) :
  Calls Tryz.prog 73 #[.agg #[.int .i64 a, .int .i64 s], .agg #[.int .i64 b, .int .i64 t], .func (.func 74) #[] #[]] w fun e w' => e = .returned (.int .i64 (cmpD a s b t)) ∧ Gr w w' := by
 obtain ⟨w0, hw0, c0, b0, b1⟩ := gr2 w (.cells #[.int .i64 a, .int .i64 s] 35) (.cells #[.int .i64 b, .int .i64 t] 35)
 have W0 := h_ hw0
 have G := h_ c0
 have B0 := h_ b0
 have B1 := h_ b1
 rw [cmpD_is]
 clear hw0 c0 b0 b1
 go_enter Tryz.func73, Tryz.ntmps73
 go_upto_region 1 with fail
 rw [← W0.out]
 generalize w.heap.size + 1 = s1 at *
 generalize w.heap.size = s0 at *
 obtain ⟨k0, k1⟩ := ce2 B0.out
 obtain ⟨k3, k4⟩ := ce2 B1.out
 go_wp2_with fail; clear k0 k1 k3 k4
 refine (dless_gr _ _ _ _ _).mono ?_
 rintro e w1 ⟨rfl, c1⟩
 replace G := h_ (G.out.trans c1)
 replace B0 := h_ (c1.1.at_ B0.out (by simp))
 replace B1 := h_ (c1.1.at_ B1.out (by simp))
 clear c1
 by_cases h1 : LtD a s b t
 ·
  rw [decide_eq_true h1]
  have H1 := h_ h1
  clear h1; go_wp2; go_ret
  exact ⟨by first | rfl | rw [if_pos H1.out], G.out⟩
 rw [decide_eq_false h1]
 have N1 := h_ h1
 clear h1
 obtain ⟨k0, k1⟩ := ce2 B0.out
 obtain ⟨k3, k4⟩ := ce2 B1.out
 go_wp2_with fail; clear k0 k1 k3 k4
 refine (dless_gr _ _ _ _ _).mono ?_
 rintro e w2 ⟨rfl, c1⟩
 replace G := h_ (G.out.trans c1)
 clear c1
 by_cases h1 : LtD b t a s
 ·
  rw [decide_eq_true h1]
  have H1 := h_ h1
  clear h1; go_wp2; go_ret
  exact ⟨by first | rfl | rw [if_neg N1.out, if_pos H1.out], G.out⟩
 ·
  rw [decide_eq_false h1]
  have H1 := h_ h1
  clear h1; go_wp2; go_ret
  exact ⟨by first | rfl | rw [if_neg N1.out, if_neg H1.out], G.out⟩
instance : Inhabited EvT := ⟨evTy.z⟩
def cmpEv (x y : EvT) : Int := cmpD x.n x.s y.n y.s
theorem ltEv (x y : EvT) : ltOf cmpEv x y = decide (LtD x.n x.s y.n y.s) := by
 unfold ltOf cmpEv
 exact decide_eq_decide.2 cmpD_lt
theorem swoEv : Go.Sort.SWO (ltOf cmpEv) where
 irrefl x := by rw [ltEv]; simp [LtD]
 trans x y z h1 h2 := by
  rw [ltEv, decide_eq_true_eq] at *
  unfold LtD at *
  omega
 ntrans x y z h1 h2 := by
  rw [ltEv, decide_eq_false_iff_not] at *
  unfold LtD at *
  omega
set_option maxRecDepth 100000 in
theorem cloneEv_any (w : World) (A : Option Addr) (n c : Nat) (xs : List EvT) (h : RdK evTy w A n xs) (hn : n * 400 ≤ 140737488355327) :
  Calls Tryz.prog 52 #[.slice A n c] w fun e w' => ∃ A' c', e = .returned (.slice A' n c') ∧ OwnK evTy w' A' c' xs ∧ (∀ a, A' = some a → w.heap.size ≤ a.block) ∧ Chg [] w w' := by
 have heq := fun W => Lib.run_eql_slice_nil (P := Tryz.prog) W 22 40 A n c 0 0 Tryz.underlying22
 cases A with
 | none =>
  have hx := rdk_nil h
  subst hx
  have hl : n = 0 := h.len.symm
  subst hl; clear h
  go_enter Tryz.func52, Tryz.ntmps52
  go_wp2; go_ret
  exact ⟨none, 0, rfl, OwnK.none_ _, by simp, Chg.refl _ _⟩
 | some ad =>
  obtain ⟨w1, hw1, c1, b1⟩ := news1 w (.cells #[] 40)
  have W1 := h_ hw1
  have HA := h_ (h.chg c1 (by simp))
  have HO : Hid (OwnK evTy w1 (some ⟨w.heap.size, 0, none⟩) 0 []) := h_ (.of (full := []) b1 (Nat.le_refl _) (Nat.zero_le _) rfl rfl)
  have C1 := h_ c1
  have HN : Hid ((0 + n) * 400 ≤ 140737488355327) := h_ (by rw [Nat.zero_add]; exact hn)
  clear hw1 c1 b1 h hn
  go_enter Tryz.func52, Tryz.ntmps52
  go_wp2_with (at_builtin; rw [← W1.out]; refine wpList_appK rfl _ _ rfl rfl HO.out rfl rfl HA.out HN.out ?_; intro A2 c2 w2 u2 d2 e2)
  go_ret
  rw [Nat.zero_add] at *
  have hA2 : ∀ a, A2 = some a → w.heap.size ≤ a.block := by
   rintro a rfl
   rcases e2 with h | h
   ·
    cases h; exact Nat.le_refl _
   ·
    cases h; exact C1.out.size
  exact ⟨A2, c2, rfl, by simpa using u2, hA2, C1.out.grown d2 (fun k hk => by simp at hk; subst hk; exact .inr (Nat.le_refl _))⟩
end
section
open Go.RowKit Go.Lib


def cmpS (x : Sp) (n s : Int) : Int := if x.1 < n ∨ x.1 = n ∧ x.2.2 < s then -1 else if n < x.1 ∨ s < x.2.1 then 1 else 0
theorem cmp_zero {x : Sp} {n s : Int} : cmpS x n s = 0 ↔ InS x n s := by
 unfold cmpS InS
 split
 ·
  constructor
  ·
   intro h; exact absurd h (by decide)
  ·
   intro h; omega
 ·
  split
  ·
   constructor
   ·
    intro h; exact absurd h (by decide)
   ·
    intro h; omega
  ·
   constructor
   ·
    intro _; omega
   ·
    intro _; rfl
theorem cmp_neg {x : Sp} {n s : Int} : cmpS x n s < 0 ↔ x.1 < n ∨ x.1 = n ∧ x.2.2 < s := by
 unfold cmpS
 split
 ·
  rename_i h; exact ⟨fun _ => h, fun _ => by decide⟩
 ·
  rename_i h
  split <;> exact ⟨fun q => absurd q (by decide), fun q => absurd q h⟩
theorem norm_at {l : List Sp} (h : Norm l) {p q : Nat} {x y : Sp} (hx : l[p]? = some x) (hy : l[q]? = some y) (hl : p < q) : Ap x y ∧ SpOk x ∧ SpOk y := by
 have hp := List.getElem?_eq_some_iff.1 hx
 have hq := List.getElem?_eq_some_iff.1 hy
 obtain ⟨l1, e1⟩ := hp
 obtain ⟨l2, e2⟩ := hq
 refine ⟨?_, h.1 x (List.mem_of_getElem? hx), h.1 y (List.mem_of_getElem? hy)⟩
 have := List.pairwise_iff_getElem.1 h.2 p q l1 l2 hl
 rw [e1, e2] at this
 exact this
def LoS (xs : List Sp) (n s : Int) (i : Nat) : Prop := ∀ p x, xs[p]? = some x → p < i → cmpS x n s < 0
def HiS (xs : List Sp) (n s : Int) (j : Nat) : Prop := ∀ p x, xs[p]? = some x → j ≤ p → ¬ cmpS x n s < 0
theorem lo_next {xs : List Sp} {n s : Int} (hn : Norm xs) {h : Nat} {x : Sp} (hx : xs[h]? = some x) (hc : cmpS x n s < 0) : LoS xs n s (h + 1) := by
 intro p y hy hp
 by_cases e : p = h
 ·
  subst e; rw [hx] at hy; cases hy; exact hc
 ·
  obtain ⟨a, o1, o2⟩ := norm_at hn hy hx (by omega)
  rw [cmp_neg] at hc ⊢
  unfold Ap SpOk at *
  omega
theorem hi_next {xs : List Sp} {n s : Int} (hn : Norm xs) {h : Nat} {x : Sp} (hx : xs[h]? = some x) (hc : ¬ cmpS x n s < 0) : HiS xs n s h := by
 intro p y hy hp
 by_cases e : p = h
 ·
  subst e; rw [hx] at hy; cases hy; exact hc
 ·
  obtain ⟨a, o1, o2⟩ := norm_at hn hx hy (by omega)
  rw [cmp_neg] at hc ⊢
  unfold Ap SpOk at *
  omega
theorem found_yes {xs : List Sp} {n s : Int} {i : Nat} {x : Sp} (hx : xs[i]? = some x) (hc : cmpS x n s = 0) : Mem xs n s := ⟨x, List.mem_of_getElem? hx, cmp_zero.1 hc⟩
theorem found_no {xs : List Sp} {n s : Int} (hn : Norm xs) {i : Nat} (hl : LoS xs n s i) (hh : HiS xs n s i) (hx : ∀ x, xs[i]? = some x → cmpS x n s ≠ 0) : ¬ Mem xs n s := by
 rintro ⟨y, hy, hi⟩
 obtain ⟨q, hq, rfl⟩ := List.getElem_of_mem hy
 have hz : cmpS xs[q] n s = 0 := cmp_zero.2 hi
 have hqe := List.getElem?_eq_getElem hq
 rcases Nat.lt_trichotomy q i with h | h | h
 ·
  have := hl q _ hqe h; omega
 ·
  subst h; exact hx _ hqe hz
 ·
  have hie := List.getElem?_eq_getElem (show i < xs.length by omega)
  obtain ⟨a, o1, o2⟩ := norm_at hn hie hqe h
  have := hh i _ hie (Nat.le_refl _)
  rw [cmp_neg] at this
  unfold Ap SpOk InS at *
  omega
set_option maxRecDepth 100000 in
theorem has1_any (w : World) (x : Sp) (n s : Int) : Calls Tryz.prog 121 #[.agg #[.int .i64 x.1, .int .i64 x.2.1, .int .i64 x.2.2], .agg #[.int .i64 n, .int .i64 s]] w fun e w' => e = .returned (.int .i64 (cmpS x n s)) ∧ Chg [] w w' := by
 obtain ⟨w1, hw1, c1, b0, b1⟩ := news2 w (.cells #[.int .i64 x.1, .int .i64 x.2.1, .int .i64 x.2.2] 81) (.cells #[.int .i64 n, .int .i64 s] 35)
 have W1 := h_ hw1
 have C1 := h_ c1
 obtain ⟨y0, y1, y2⟩ := ce3 b0
 obtain ⟨z0, z1⟩ := ce2 b1
 clear hw1 c1 b0 b1
 have fin : ∀ v, cmpS x n s = v → Calls Tryz.prog 121 #[.agg #[.int .i64 x.1, .int .i64 x.2.1, .int .i64 x.2.2], .agg #[.int .i64 n, .int .i64 s]] w (fun e w' => e = .returned (.int .i64 v) ∧ Chg [] w w') → Calls Tryz.prog 121 #[.agg #[.int .i64 x.1, .int .i64 x.2.1, .int .i64 x.2.2], .agg #[.int .i64 n, .int .i64 s]] w fun e w' => e = .returned (.int .i64 (cmpS x n s)) ∧ Chg [] w w' := fun v hv h => hv ▸ h
 obtain ⟨x1, x2, x3⟩ := x
 dsimp only at *
 rcases Int.lt_trichotomy x1 n with h | h | h
 ·
  have f1 : x1 < n := h
  refine fin (-1) (by unfold cmpS; exact if_pos (.inl h)) ?_
  clear fin
  go_enter Tryz.func121, Tryz.ntmps121
  go_upto_region 1 with fail
  rw [← W1.out]
  generalize w.heap.size = g0 at *
  go_wp2; go_ret
  exact ⟨rfl, C1.out⟩
 ·
  subst h
  have f0 : ¬ x1 < x1 := by omega
  have f3 : ((x1 == x1) : Bool) = true := by simp
  by_cases h2 : x3 < s
  ·
   skip
   refine fin (-1) (by unfold cmpS; exact if_pos (.inr ⟨rfl, h2⟩)) ?_
   clear fin
   go_enter Tryz.func121, Tryz.ntmps121
   go_upto_region 1 with fail
   rw [← W1.out]
   generalize w.heap.size = g0 at *
   go_wp2; go_ret
   exact ⟨rfl, C1.out⟩
  by_cases h3 : s < x2
  ·
   skip
   refine fin (1) (by unfold cmpS; rw [if_neg (by simp only; omega)]; exact if_pos (.inr h3)) ?_
   clear fin
   go_enter Tryz.func121, Tryz.ntmps121
   go_upto_region 1 with fail
   rw [← W1.out]
   generalize w.heap.size = g0 at *
   go_wp2; go_ret
   exact ⟨rfl, C1.out⟩
  refine fin (0) (by unfold cmpS; rw [if_neg (by simp only; omega)]; exact if_neg (by simp only; omega)) ?_
  clear fin
  go_enter Tryz.func121, Tryz.ntmps121
  go_upto_region 1 with fail
  rw [← W1.out]
  generalize w.heap.size = g0 at *
  go_wp2; go_ret
  exact ⟨rfl, C1.out⟩
 ·
  have f1 : ¬ x1 < n := by omega
  have f3 : ((x1 == n) : Bool) = false := by simp; omega
  refine fin (1) (by unfold cmpS; rw [if_neg (by simp only; omega)]; exact if_pos (.inl h)) ?_
  clear fin
  go_enter Tryz.func121, Tryz.ntmps121
  go_upto_region 1 with fail
  rw [← W1.out]
  generalize w.heap.size = g0 at *
  go_wp2; go_ret
  exact ⟨rfl, C1.out⟩
end
section
open Go.RowKit Go.Lib


set_option maxRecDepth 100000 in
theorem binspan_any (w : World) (A : Option Addr) (c : Nat) (xs : List Sp) (n s : Int) (h : RdK spanTy w A xs.length xs) (hn : Norm xs) (hl : xs.length ≤ 4000) :
  Calls Tryz.prog 120 #[.slice A xs.length c, .agg #[.int .i64 n, .int .i64 s], .func (.func 121) #[] #[]] w fun e w' => ∃ i : Int, e = .returned (.tuple #[.int .i64 i, .bool (decide (Mem xs n s))]) ∧ Chg [] w w' := by
 have HX := h_ h
 have HNM := h_ hn
 have HL := h_ hl
 clear h hn hl
 obtain ⟨w1, hw1, c1, b1⟩ := news1 w (.cells #[.int .i64 n, .int .i64 s] 35)
 have W1 := h_ hw1
 have C1 := h_ c1
 have B1 := h_ b1
 clear hw1 c1 b1
 go_enter Tryz.func120, Tryz.ntmps120
 go_upto_region 2 with fail
 rw [← W1.out]
 generalize w.heap.size = g0 at *
 clear W1; go_wp2
 go_loopw [9, 10] (fun v9 v10 wr => ∃ (i j : Nat), i ≤ j ∧ j ≤ xs.length ∧ v9 = .int .i64 (i : Int) ∧ v10 = .int .i64 (j : Int) ∧ Hid (LoS xs n s i ∧ HiS xs n s j) ∧ Hid (Chg [] w1 wr)) (fun v9 v10 _ => (RowKit.intOf v10).toNat - (RowKit.intOf v9).toNat)
 case atStart => exact ⟨0, xs.length, Nat.zero_le _, Nat.le_refl _, rfl, rfl, h_ ⟨fun p x _ h => absurd h (by omega), fun p x hx h => absurd ((List.getElem?_eq_some_iff.1 hx).1) (by omega)⟩, Chg.refl _ _⟩
 case round =>
  obtain ⟨i, j, hij, hj, rfl, rfl, HI, HC⟩ := hrel
  have i0 : (0 : Int) ≤ (i : Int) := by omega
  have hl := HL.out
  have i1 : IntKind.i64.wrap ((i : Int) + (j : Int)) = ((i + j : Nat) : Int) := by rw [IntWalk.i64_in _ (by omega)]; omega
  by_cases hlt : i < j
  ·
   have i2 : (i : Int) < (j : Int) := by omega
   go_upto_region 5 with fail
   obtain ⟨k, hk⟩ : ∃ k : Nat, k = (i + j) / 2 := ⟨_, rfl⟩
   have e1 : ((i : Int) + (j : Int)) / 2 = (k : Int) := by omega
   rw [e1]
   have hk1 : i ≤ k ∧ k < j := by omega
   clear hk e1 i1 i2
   obtain ⟨x, hx⟩ : ∃ x, xs[k]? = some x := ⟨_, List.getElem?_eq_getElem (by omega)⟩
   have R4 := (HX.out.chg C1.out (by simp)).chg HC.out (by simp)
   obtain ⟨g, o, eA, _⟩ := R4.line (by omega)
   subst eA
   obtain ⟨q0, q1, q2⟩ := spanCells R4 hx
   have b4 := HC.out.at_ B1.out (by simp)
   obtain ⟨d0, d1⟩ := ce2 b4
   have k0 : (0 : Int) ≤ (k : Int) := by omega
   have k1 : (k : Int) < (xs.length : Int) := by omega
   have HX5 := h_ hx
   clear R4 b4 hx
   refine wp_region_held_drew (S := fun w' => w'.cell? ⟨g, o + k * 3, none⟩ = some (.int .i64 x.1) ∧ w'.cell? ⟨g, o + k * 3 + 1, none⟩ = some (.int .i64 x.2.1) ∧ w'.cell? ⟨g, o + k * 3 + 2, none⟩ = some (.int .i64 x.2.2) ∧ w'.cell? ⟨g0, 0, none⟩ = some (.int .i64 n) ∧ w'.cell? ⟨g0, 1, none⟩ = some (.int .i64 s)) (by kernel_rfl) ⟨q0, q1, q2, d0, d1⟩ (fun hHeld => ?_)
   have CD := h_ (Chg.refl [] wr).drew
   have HH := h_ (fun (w' : World) (hc : Chg [] wr.drew w') => (⟨(CD.out.trans hc).cell q0 (by simp), (CD.out.trans hc).cell q1 (by simp), (CD.out.trans hc).cell q2 (by simp), (CD.out.trans hc).cell d0 (by simp), (CD.out.trans hc).cell d1 (by simp)⟩ : w'.cell? ⟨g, o + k * 3, none⟩ = some (.int .i64 x.1) ∧ w'.cell? ⟨g, o + k * 3 + 1, none⟩ = some (.int .i64 x.2.1) ∧ w'.cell? ⟨g, o + k * 3 + 2, none⟩ = some (.int .i64 x.2.2) ∧ w'.cell? ⟨g0, 0, none⟩ = some (.int .i64 n) ∧ w'.cell? ⟨g0, 1, none⟩ = some (.int .i64 s)))
   clear q0 q1 q2 d0 d1
   generalize wr.drew = wd at *
   refine sy 0 24 rfl rfl ?_; try simp only [Act.put, sA, s0, s1]
   refine sy 1 25 rfl rfl ?_; try simp only [Act.put, sA, s0, s1]
   refine sy 2 26 rfl rfl ?_; try simp only [Act.put, sA, s0, s1]
   refine sy 3 27 rfl rfl ?_; try simp only [Act.put, sA, s0, s1]
   refine sy 4 28 rfl rfl ?_ (hy := by (intro w hSw; (try dsimp only at hSw); obtain ⟨q0, q1, q2, q3, q4⟩ := hSw; go_simp; try with_reducible rfl))
   try simp only [Act.put, sA, s0, s1]
   refine sy 5 29 rfl rfl ?_ (hy := by (intro w hSw; (try dsimp only at hSw); obtain ⟨q0, q1, q2, q3, q4⟩ := hSw; go_simp; try with_reducible rfl))
   try simp only [Act.put, sA, s0, s1]
   refine on1 6 rfl (fun K hK => ?_)
   go_simp
   refine (has1_any wd x n s).mono ?_
   rintro r w6 ⟨rfl, h6⟩
   have C6 := h_ h6
   clear h6 hHeld
   refine hK.out _ _ (HH.out w6 C6.out) (fun hHeld => ?_)
   clear hK K; try simp only [Act.put, sA, s0, s1]
   refine sy 7 31 rfl rfl ?_; try simp only [Act.put, sA, s0, s1]
   refine wpAnyH_done (by kernel_rfl) ?_ _; clear hHeld HH
   have CE := h_ (HC.out.trans (CD.out.trans C6.out))
   by_cases hneg : cmpS x n s < 0
   ·
    have LO := h_ (lo_next HNM.out HX5.out hneg)
    have dn1 : decide (cmpS x n s < 0) = true := decide_eq_true hneg
    have w1' : IntKind.i64.wrap ((k : Int) + 1) = (k : Int) + 1 := IntWalk.i64_in _ (by omega)
    go_wp2; go_round
    case rel => exact ⟨k + 1, j, by omega, hj, by go_num, rfl, h_ ⟨LO.out, HI.out.2⟩, CE.out⟩
    case measure => simp [RowKit.intOf]; omega
   ·
    have HIN := h_ (hi_next HNM.out HX5.out hneg)
    have dn1 : decide (cmpS x n s < 0) = false := decide_eq_false hneg
    go_wp2; go_round
    case rel => exact ⟨i, k, by omega, by omega, rfl, rfl, h_ ⟨HI.out.1, HIN.out⟩, CE.out⟩
    case measure => simp [RowKit.intOf]; omega
  ·
   obtain rfl : i = j := by omega
   have i2 : ¬ (i : Int) < (i : Int) := by omega
   by_cases hin : i < xs.length
   ·
    have k1 : (i : Int) < (xs.length : Int) := by omega
    have k2 : decide ((i : Int) < (xs.length : Int)) = true := by simp; omega
    have k3 : decide (i < xs.length) = true := by simp; omega
    obtain ⟨x, hx⟩ : ∃ x, xs[i]? = some x := ⟨_, List.getElem?_eq_getElem hin⟩
    have R4 := (HX.out.chg C1.out (by simp)).chg HC.out (by simp)
    obtain ⟨g, o, eA, _⟩ := R4.line (by omega)
    subst eA
    obtain ⟨q0, q1, q2⟩ := spanCells R4 hx
    have b4 := HC.out.at_ B1.out (by simp)
    obtain ⟨d0, d1⟩ := ce2 b4
    have ANS : Hid (decide (Mem xs n s) = decide (cmpS x n s = 0)) := h_ (by
     by_cases hz : cmpS x n s = 0
     ·
      rw [decide_eq_true (found_yes hx hz), decide_eq_true hz]
     ·
      rw [decide_eq_false (found_no HNM.out HI.out.1 HI.out.2 (fun y hy => by rw [hx] at hy; cases hy; exact hz)), decide_eq_false hz])
    clear R4 b4 hx
    go_upto_region 8 with fail
    refine wp_region_held_drew (S := fun w' => w'.cell? ⟨g, o + i * 3, none⟩ = some (.int .i64 x.1) ∧ w'.cell? ⟨g, o + i * 3 + 1, none⟩ = some (.int .i64 x.2.1) ∧ w'.cell? ⟨g, o + i * 3 + 2, none⟩ = some (.int .i64 x.2.2) ∧ w'.cell? ⟨g0, 0, none⟩ = some (.int .i64 n) ∧ w'.cell? ⟨g0, 1, none⟩ = some (.int .i64 s)) (by kernel_rfl) ⟨q0, q1, q2, d0, d1⟩ (fun hHeld => ?_)
    have CD := h_ (Chg.refl [] wr).drew
    have HH := h_ (fun (w' : World) (hc : Chg [] wr.drew w') => (⟨(CD.out.trans hc).cell q0 (by simp), (CD.out.trans hc).cell q1 (by simp), (CD.out.trans hc).cell q2 (by simp), (CD.out.trans hc).cell d0 (by simp), (CD.out.trans hc).cell d1 (by simp)⟩ : w'.cell? ⟨g, o + i * 3, none⟩ = some (.int .i64 x.1) ∧ w'.cell? ⟨g, o + i * 3 + 1, none⟩ = some (.int .i64 x.2.1) ∧ w'.cell? ⟨g, o + i * 3 + 2, none⟩ = some (.int .i64 x.2.2) ∧ w'.cell? ⟨g0, 0, none⟩ = some (.int .i64 n) ∧ w'.cell? ⟨g0, 1, none⟩ = some (.int .i64 s)))
    clear q0 q1 q2 d0 d1 i2
    generalize wr.drew = wd at *
    refine sy 0 35 rfl rfl ?_; try simp only [Act.put, sA, s0, s1]
    refine sy 1 36 rfl rfl ?_; try simp only [Act.put, sA, s0, s1]
    refine sy 2 37 rfl rfl ?_; try simp only [Act.put, sA, s0, s1]
    refine sy 3 38 rfl rfl ?_; try simp only [Act.put, sA, s0, s1]
    refine sy 4 39 rfl rfl ?_; try simp only [Act.put, sA, s0, s1]
    refine sy 5 40 rfl rfl ?_; try simp only [Act.put, sA, s0, s1]
    refine sy 6 41 rfl rfl ?_; try simp only [Act.put, sA, s0, s1]
    refine sy 7 42 rfl rfl ?_; try simp only [Act.put, sA, s0, s1]
    refine sy 8 43 rfl rfl ?_; try simp only [Act.put, sA, s0, s1]
    refine sy 9 44 rfl rfl ?_ (hy := by (intro w hSw; (try dsimp only at hSw); obtain ⟨q0, q1, q2, q3, q4⟩ := hSw; go_simp; try with_reducible rfl))
    try simp only [Act.put, sA, s0, s1]
    refine sy 10 45 rfl rfl ?_ (hy := by (intro w hSw; (try dsimp only at hSw); obtain ⟨q0, q1, q2, q3, q4⟩ := hSw; go_simp; try with_reducible rfl))
    try simp only [Act.put, sA, s0, s1]
    refine on1 11 rfl (fun K hK => ?_)
    go_simp
    refine (has1_any wd x n s).mono ?_
    rintro r w6 ⟨rfl, h6⟩
    have C6 := h_ h6
    clear h6 hHeld
    refine hK.out _ _ (HH.out w6 C6.out) (fun hHeld => ?_)
    clear hK K; try simp only [Act.put, sA, s0, s1]
    refine sy 12 47 rfl rfl ?_; try simp only [Act.put, sA, s0, s1]
    refine sy 13 48 rfl rfl ?_; try simp only [Act.put, sA, s0, s1]
    refine sy 14 6 rfl rfl ?_; try simp only [Act.put, sA, s0, s1]
    refine sy 15 7 rfl rfl ?_; try simp only [Act.put, sA, s0, s1]
    refine wpAnyH_done (by kernel_rfl) ?_ _; clear hHeld HH
    have CE := h_ (C1.out.trans (HC.out.trans (CD.out.trans C6.out)))
    by_cases hz : cmpS x n s = 0
    ·
     have AN : decide (Mem xs n s) = true := by rw [ANS.out, decide_eq_true hz]
     have dz : ((cmpS x n s == 0) : Bool) = true := by simpa using hz
     clear ANS hz; go_wp2; go_ret2
     (first | exact ⟨(i : Int), by show Ending.returned (.tuple #[.int .i64 (i : Int), .bool (cmpS x n s == 0)]) = _; rw [dz, AN], CE.out⟩ | exact ⟨⟨(i : Int), by show Ending.returned (.tuple #[.int .i64 (i : Int), .bool false]) = _; first | rfl | rw [AN]⟩, CE.out⟩)
    ·
     have AN : decide (Mem xs n s) = false := by rw [ANS.out, decide_eq_false hz]
     have dz : ((cmpS x n s == 0) : Bool) = false := by simpa using hz
     clear ANS hz; go_wp2; go_ret2
     (first | exact ⟨(i : Int), by show Ending.returned (.tuple #[.int .i64 (i : Int), .bool (cmpS x n s == 0)]) = _; rw [dz, AN], CE.out⟩ | exact ⟨⟨(i : Int), by show Ending.returned (.tuple #[.int .i64 (i : Int), .bool false]) = _; first | rfl | rw [AN]⟩, CE.out⟩)
   ·
    have k1 : ¬ (i : Int) < (xs.length : Int) := by omega
    have k2 : decide ((i : Int) < (xs.length : Int)) = false := by simp; omega
    have k3 : decide (i < xs.length) = false := by simp; omega
    have ANS : Hid (decide (Mem xs n s) = false) := h_ (decide_eq_false (found_no HNM.out HI.out.1 HI.out.2 (fun y hy => absurd ((List.getElem?_eq_some_iff.1 hy).1) hin)))
    go_upto_region 8 with fail
    refine wp_region_held_drew (S := fun _ => True) (by kernel_rfl) trivial (fun hHeld => ?_)
    have CD := h_ (Chg.refl [] wr).drew
    generalize wr.drew = wd at *
    clear i2
    refine sy 0 35 rfl rfl ?_ (hS := trivial)
    try simp only [Act.put, sA, s0, s1]
    refine sy 1 36 rfl rfl ?_ (hS := trivial)
    try simp only [Act.put, sA, s0, s1]
    refine sy 2 37 rfl rfl ?_ (hS := trivial)
    try simp only [Act.put, sA, s0, s1]
    refine sy 3 38 rfl rfl ?_ (hS := trivial)
    try simp only [Act.put, sA, s0, s1]
    refine sy 4 39 rfl rfl ?_ (hS := trivial)
    try simp only [Act.put, sA, s0, s1]
    refine sn 5 40 rfl rfl ?_ (hS := trivial)
    try simp only [Act.put, sA, s0, s1]
    refine sn 6 41 rfl rfl ?_ (hS := trivial)
    try simp only [Act.put, sA, s0, s1]
    refine sn 7 42 rfl rfl ?_ (hS := trivial)
    try simp only [Act.put, sA, s0, s1]
    refine sn 8 43 rfl rfl ?_ (hS := trivial)
    try simp only [Act.put, sA, s0, s1]
    refine sn 9 44 rfl rfl ?_ (hS := trivial)
    try simp only [Act.put, sA, s0, s1]
    refine sn 10 45 rfl rfl ?_ (hS := trivial)
    try simp only [Act.put, sA, s0, s1]
    refine sn 11 46 rfl rfl ?_ (hS := trivial)
    try simp only [Act.put, sA, s0, s1]
    refine sn 12 47 rfl rfl ?_ (hS := trivial)
    try simp only [Act.put, sA, s0, s1]
    refine sy 13 48 rfl rfl ?_ (hS := trivial)
    try simp only [Act.put, sA, s0, s1]
    refine sy 14 6 rfl rfl ?_ (hS := trivial)
    try simp only [Act.put, sA, s0, s1]
    refine sy 15 7 rfl rfl ?_ (hS := trivial)
    try simp only [Act.put, sA, s0, s1]
    refine wpAnyH_done (by kernel_rfl) ?_ _; clear hHeld
    have CE := h_ (C1.out.trans (HC.out.trans CD.out))
    have AN := ANS.out
    go_wp2; go_ret2
    (first | exact ⟨(i : Int), by show Ending.returned (.tuple #[.int .i64 (i : Int), .bool (cmpS x n s == 0)]) = _; rw [dz, AN], CE.out⟩ | exact ⟨⟨(i : Int), by show Ending.returned (.tuple #[.int .i64 (i : Int), .bool false]) = _; first | rfl | rw [AN]⟩, CE.out⟩)
end
section
open Go.RowKit Go.Lib


def hasE (xs : List Sp) (n s : Int) : Bool := decide (chkS xs = 0) && decide (Mem xs n s)
set_option maxRecDepth 100000 in
theorem has_any (w : World) (A : Option Addr) (c : Nat) (xs : List Sp) (n s : Int) (h : RdK spanTy w A xs.length xs) (hn : xs.length ≤ 140737488351232) :
  Calls Tryz.prog 72 #[.slice A xs.length c, .agg #[.int .i64 n, .int .i64 s]] w fun e w' => e = .returned (.bool (hasE xs n s)) ∧ Chg [] w w' := by
 obtain ⟨w0, hw0, c0, b0⟩ := news1 w (.cells #[.int .i64 n, .int .i64 s] 35)
 have W0 := h_ hw0
 have C0 := h_ c0
 have B0 := h_ b0
 have H := h_ (h.chg c0 (by simp))
 have HN := h_ hn
 clear hw0 c0 b0 h hn
 rcases chk_two xs with e1 | e1
 ·
  have eH : hasE xs n s = decide (Mem xs n s) := by unfold hasE; rw [decide_eq_true e1]; rfl
  rw [eH]
  have WF := h_ (wf_of_chk e1)
  clear eH
  go_enter Tryz.func72, Tryz.ntmps72
  go_wp2_with fail
  rw [← W0.out]
  generalize w.heap.size = g0 at *
  refine (pacheck_any w0 A _ c xs H.out HN.out).mono ?_
  rintro e w1 ⟨rfl, h1⟩
  rw [e1]
  have C1 := h_ h1
  have b1 := h1.at_ B0.out (by simp)
  obtain ⟨z0, z1⟩ := ce2 b1
  clear h1 b1; go_wp2_with fail
  refine (binspan_any w1 A c xs n s (H.out.chg C1.out (by simp)) WF.out.1.1 WF.out.2).mono ?_
  rintro e w2 ⟨i, rfl, h2⟩
  have C2 := h_ (C0.out.trans (C1.out.trans h2))
  clear h2 z0 z1
  generalize hbb : decide (Mem xs n s) = b at *
  have HBB := h_ hbb
  clear hbb; go_wp2; go_ret
  have e9 := HBB.out
  subst e9
  exact ⟨rfl, C2.out⟩
 ·
  have eH : hasE xs n s = false := by unfold hasE; rw [decide_eq_false (by omega)]; rfl
  rw [eH]
  clear eH
  go_enter Tryz.func72, Tryz.ntmps72
  go_wp2_with fail
  rw [← W0.out]
  generalize w.heap.size = g0 at *
  refine (pacheck_any w0 A _ c xs H.out HN.out).mono ?_
  rintro e w1 ⟨rfl, h1⟩
  rw [e1]
  have C1 := h_ h1
  clear h1; go_wp2; go_ret
  exact ⟨rfl, C0.out.trans C1.out⟩
end
end Go.Proofs.YtehmchdhlhchjaaGreatDoor
