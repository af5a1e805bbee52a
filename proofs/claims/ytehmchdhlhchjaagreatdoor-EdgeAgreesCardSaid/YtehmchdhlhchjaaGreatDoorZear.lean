/- An event put on a shelf, as the document goes through it, and as the program does: purely. What a shelf is with one event more: purely. The document's parts. The document's cut. The document's Check. path.Under and the document's. path.Near, the document's Under and Near. The document's Under and Near. strings.Split at the byte 47. path.compare, path.Less: texts held against one another by their parts. Paths, purely: the order of texts by their parts. Orders, purely. Stores of closed events: purely. What a store is, and is with one event more: purely. The runs of a store: purely. -/
import Derived.Test.YtehmchdhlhchjaaGreatDoorZeaq
import Derived.Test.YtehmchdhlhchjaaGreatDoorZeap
import Derived.Test.YtehmchdhlhchjaaGreatDoorZeaf
import Derived.Deep.QuietTactic
import Derived.BigQuiet
import Derived.Deep.RegionHeld3
import Derived.Shelf.Small.Wraps
import Derived.Shelf.Strings.Prefix
import Derived.Shelf.Strings.Count
import Derived.Shelf.Small.Strs
import Derived.Maps.OwnSet
set_option linter.unusedSimpArgs false
set_option linter.unusedVariables false
set_option maxHeartbeats 32000000
namespace Go.Proofs.YtehmchdhlhchjaaGreatDoor
section
open Go.RowKit Go.Lib

def keepE (l : List EvP) (e : EvP) : List EvP := l.filter (fun x => !aheadP x e)
theorem insE_at {l : List EvP} {e : EvP} {i : Nat} (hi : i ≤ l.length) (lo : ∀ (p : Nat) (x : EvP), l[p]? = some x → p < i → LtEv x e) (hh : ∀ (p : Nat) (x : EvP), l[p]? = some x → i ≤ p → ¬ LtEv x e) (hd : ∀ x ∈ l, ¬ (x.n = e.n ∧ x.s = e.s)) : insE e l = l.take i ++ e :: l.drop i := by
 induction l generalizing i with
 | nil => simp [insE]
 | cons x l ih =>
  cases i with
  | zero =>
   have a := hh 0 x rfl (Nat.le_refl _)
   have b := hd x (by simp)
   unfold insE
   rw [if_pos (by unfold LtEv LtD at *; omega)]
   rfl
  | succ i =>
   have a := lo 0 x rfl (by omega)
   unfold insE
   rw [if_neg (by unfold LtEv LtD at *; omega), ih (by simpa using hi) (fun p y hy hp => lo (p + 1) y (by simpa using hy) (by omega)) (fun p y hy hp => hh (p + 1) y (by simpa using hy) (by omega)) (fun y hy => hd y (by simp [hy]))]
   rfl
theorem keep_up {l : List EvP} {e : EvP} (h : l.Pairwise LtEv) : (keepE l e).Pairwise LtEv := h.sublist List.filter_sublist
theorem keep_sub {l : List EvP} {e x : EvP} (h : x ∈ keepE l e) : x ∈ l := (List.mem_filter.1 h).1
theorem stay_no {l : List EvP} {e : EvP} (h : stayE l e = false) : ∀ x ∈ l, ¬ (x.n = e.n ∧ x.s = e.s) ∧ aheadP e x = false := fun x hx => by
 refine ⟨fun q => ?_, ?_⟩
 ·
  rw [stay_iff.2 ⟨x, hx, .inl q⟩] at h; cases h
 ·
  rcases r : aheadP e x with _ | _
  ·
   rfl
  ·
   rw [stay_iff.2 ⟨x, hx, .inr r⟩] at h; cases h
theorem put_path {l : List EvP} {e : EvP} {p : List UInt8} (h : ∀ x ∈ l, x.p = p) (he : e.p = p) : ∀ x ∈ putE l e, x.p = p := fun x hx => by
 unfold putE at hx
 split at hx
 ·
  exact h x hx
 ·
  rcases (insE_mem e x _).1 hx with a | a
  ·
   rw [a]; exact he
  ·
   exact h x (List.mem_filter.1 a).1
def onePath (a b : List EvP) : Prop := ∀ x ∈ a, ∀ y ∈ b, x.p = y.p
instance (a b : List EvP) : Decidable (onePath a b) := by unfold onePath; exact inferInstance
def shJoinE (a b : List EvP) : Int × List EvP := if ShOk a ∧ ShOk b ∧ onePath a b then (0, b.foldl putE a) else (2, [])
end
section
open Go.RowKit Go.Lib

theorem shOk_one {f : EvP} : ShOk [f] ↔ chkEv f = 0 := by
 constructor
 ·
  exact fun h => h.1 f (by simp)
 ·
  intro h
  refine ⟨fun e he => ?_, fun e he g hg => ?_, List.pairwise_singleton _ _, fun e he g hg => ?_⟩
  ·
   rw [List.mem_singleton.1 he]; exact h
  ·
   rw [List.mem_singleton.1 he, List.mem_singleton.1 hg]
  ·
   rw [List.mem_singleton.1 he, List.mem_singleton.1 hg]
   exact ahead_no h h (own_out h)
theorem shJoin_noA {a b : List EvP} (h : ¬ ShOk a) : shJoinE a b = (2, []) := by unfold shJoinE; rw [if_neg (fun q => h q.1)]
theorem shJoin_noB {a b : List EvP} (h : ¬ ShOk b) : shJoinE a b = (2, []) := by unfold shJoinE; rw [if_neg (fun q => h q.2.1)]
theorem shJoin_no1 {es : List EvP} {f : EvP} (h : chkEv f ≠ 0) : shJoinE es [f] = (2, []) := shJoin_noB (fun q => h (shOk_one.1 q))
theorem shJoin_path {a b : List EvP} {x y : EvP} (hx : a[0]? = some x) (hy : b[0]? = some y) (h : x.p ≠ y.p) : shJoinE a b = (2, []) := by
 unfold shJoinE
 rw [if_neg (fun q => h (q.2.2 x (List.mem_of_getElem? hx) y (List.mem_of_getElem? hy)))]
theorem one_path {a b : List EvP} (ha : ShOk a) (hb : ShOk b) (hp : ∀ x y, a[0]? = some x → b[0]? = some y → x.p = y.p) : onePath a b := by
 intro u hu v hv
 have ha0 : 0 < a.length := List.length_pos_of_mem hu
 have hb0 : 0 < b.length := List.length_pos_of_mem hv
 have e := hp _ _ (List.getElem?_eq_getElem ha0) (List.getElem?_eq_getElem hb0)
 rw [ha.2.1 u hu _ (List.getElem_mem ha0), e, hb.2.1 _ (List.getElem_mem hb0) v hv]
theorem shJoin_yes {a b : List EvP} (ha : ShOk a) (hb : ShOk b) (hp : ∀ x y, a[0]? = some x → b[0]? = some y → x.p = y.p) : shJoinE a b = (0, b.foldl putE a) := by
 unfold shJoinE
 rw [if_pos ⟨ha, hb, one_path ha hb hp⟩]
theorem shPut_yes {es : List EvP} {f : EvP} (ha : ShOk es) (hf : chkEv f = 0) (hp : ∀ x, es[0]? = some x → x.p = f.p) : shJoinE es [f] = (0, putE es f) :=
 shJoin_yes ha (shOk_one.2 hf) (fun x y hx hy => by
  simp at hy
  rw [← hy]
  exact hp x hx)
theorem shE_zero {l : List EvP} : shE l = 0 ↔ ShOk l := by unfold shE; split <;> simp_all
theorem shE_two (l : List EvP) : shE l = 0 ∨ shE l = 2 := by unfold shE; split <;> simp
theorem EvsR.up {w : World} {xs : List EvT} {es : List EvP} (h : EvsR w xs es) (hu : es.Pairwise LtEv) : UpE xs := by
 unfold UpE
 rw [List.pairwise_iff_getElem] at hu ⊢
 intro i j hi hj hij
 have a := h.2 i _ _ (List.getElem?_eq_getElem hi) (List.getElem?_eq_getElem (by rw [← h.1]; exact hi))
 have b := h.2 j _ _ (List.getElem?_eq_getElem hj) (List.getElem?_eq_getElem (by rw [← h.1]; exact hj))
 have q := hu i j (by rw [← h.1]; exact hi) (by rw [← h.1]; exact hj) hij
 have a1 := a.n; have a2 := a.s; have b1 := b.n; have b2 := b.s
 unfold LtEv LtD at *
 omega
theorem EvsR.inE {w : World} {xs : List EvT} {es : List EvP} (h : EvsR w xs es) (n s : Int) : inE xs n s = es.any (fun x => decide (x.n = n ∧ x.s = s)) := by
 unfold Go.Proofs.YtehmchdhlhchjaaGreatDoor.inE
 rw [Bool.eq_iff_iff, List.any_eq_true, List.any_eq_true]
 constructor
 ·
  rintro ⟨x, hx, q⟩
  obtain ⟨i, hi⟩ := List.getElem?_of_mem hx
  obtain ⟨x2, e, ex, ee, rx⟩ := h.at_ (show i < xs.length from (List.getElem?_eq_some_iff.1 hi).1)
  rw [hi] at ex
  cases ex
  refine ⟨e, List.mem_of_getElem? ee, ?_⟩
  rw [← rx.n, ← rx.s]
  exact q
 ·
  rintro ⟨e, he, q⟩
  obtain ⟨i, hi⟩ := List.getElem?_of_mem he
  obtain ⟨x, e2, ex, ee, rx⟩ := h.at_ (show i < xs.length from by rw [h.1]; exact (List.getElem?_eq_some_iff.1 hi).1)
  rw [hi] at ee
  cases ee
  refine ⟨x, List.mem_of_getElem? ex, ?_⟩
  rw [rx.n, rx.s]
  exact q
theorem any_or {α : Type} (p q : α → Bool) : ∀ l : List α, l.any (fun x => p x || q x) = (l.any p || l.any q)
 | [] => rfl
 | x :: l => by simp only [List.any_cons, any_or p q l]; cases p x <;> cases q x <;> simp
theorem stay_or (es : List EvP) (f : EvP) : stayE es f = (es.any (fun x => decide (x.n = f.n ∧ x.s = f.s)) || es.any (fun e => aheadP f e)) := by
 unfold stayE
 rw [any_or]
theorem put_stays {es : List EvP} {f : EvP} (h : stayE es f = true) : putE es f = es := by unfold putE; rw [if_pos h]
theorem EvsR.ins {w : World} {xs : List EvT} {es : List EvP} {y : EvT} {f : EvP} (h : EvsR w xs es) (r : EvR w y f) (i : Nat) : EvsR w (xs.take i ++ y :: xs.drop i) (es.take i ++ f :: es.drop i) := by
 have h1 := h.1
 refine ⟨by simp [h1], fun j x e hx he => ?_⟩
 by_cases q : j < i
 ·
  by_cases q2 : j < xs.length
  ·
   rw [List.getElem?_append_left (by rw [List.length_take]; omega), List.getElem?_take, if_pos q] at hx
   rw [List.getElem?_append_left (by rw [List.length_take]; omega), List.getElem?_take, if_pos q] at he
   exact h.2 j x e hx he
  ·
   rw [List.take_of_length_le (by omega), List.drop_of_length_le (by omega)] at hx
   rw [List.take_of_length_le (by omega), List.drop_of_length_le (by omega)] at he
   rw [List.getElem?_append_right (by omega)] at hx
   rw [List.getElem?_append_right (by omega)] at he
   rw [h1] at hx
   cases hk : j - es.length with
   | zero => rw [hk] at hx he; simp at hx he; rw [← hx, ← he]; exact r
   | succ m => rw [hk] at hx; simp at hx
 ·
  by_cases q3 : xs.length < i
  ·
   rw [List.take_of_length_le (by omega), List.drop_of_length_le (by omega)] at hx
   rw [List.take_of_length_le (by omega), List.drop_of_length_le (by omega)] at he
   rw [List.getElem?_append_right (by omega)] at hx
   rw [List.getElem?_append_right (by omega)] at he
   rw [h1] at hx
   cases hk : j - es.length with
   | zero => rw [hk] at hx he; simp at hx he; rw [← hx, ← he]; exact r
   | succ m => rw [hk] at hx; simp at hx
  ·
   have l1 : (xs.take i).length = i := by rw [List.length_take]; omega
   have l2 : (es.take i).length = i := by rw [List.length_take]; omega
   rw [List.getElem?_append_right (by omega), l1] at hx
   rw [List.getElem?_append_right (by omega), l2] at he
   cases hk : j - i with
   | zero => rw [hk] at hx he; simp at hx he; rw [← hx, ← he]; exact r
   | succ m =>
    rw [hk] at hx he
    rw [List.getElem?_cons_succ, List.getElem?_drop] at hx he
    exact h.2 _ x e hx he
theorem put_ins {w : World} {ys : List EvT} {es : List EvP} {y : EvT} {f : EvP} {i : Nat} (h : EvsR w ys (keepE es f)) (r : EvR w y f) (hs : stayE es f = false) (hi : i ≤ ys.length) (lo : LoE ys y.n y.s i) (hh : HiE ys y.n y.s i) : EvsR w (ys.take i ++ y :: ys.drop i) (putE es f) := by
 have e : putE es f = (keepE es f).take i ++ f :: (keepE es f).drop i := by
  unfold putE
  rw [if_neg (by rw [hs]; decide)]
  have at_ : ∀ (p : Nat) (x : EvP), (keepE es f)[p]? = some x → ∃ t, ys[p]? = some t ∧ t.n = x.n ∧ t.s = x.s := fun p x hx => by
   obtain ⟨t, e2, ex, ee, rx⟩ := h.at_ (show p < ys.length from by rw [h.1]; exact (List.getElem?_eq_some_iff.1 hx).1)
   rw [hx] at ee
   cases ee
   exact ⟨t, ex, rx.n, rx.s⟩
  refine insE_at (l := keepE es f) (by rw [← h.1]; exact hi) (fun p x hx hp => ?_) (fun p x hx hp => ?_) (fun x hx => (stay_no hs x (keep_sub hx)).1)
  ·
   obtain ⟨t, ht, a, b⟩ := at_ p x hx
   have := lo p t ht hp
   rw [a, b, r.n, r.s] at this
   exact this
  ·
   obtain ⟨t, ht, a, b⟩ := at_ p x hx
   have := hh p t ht hp
   rw [a, b, r.n, r.s] at this
   exact this
 rw [e]
 exact h.ins r i
theorem put_len (es : List EvP) (f : EvP) : (putE es f).length ≤ es.length + 1 := by
 unfold putE
 split
 ·
  omega
 ·
  have l : ∀ l : List EvP, (insE f l).length = l.length + 1 := fun l => by
   induction l with
   | nil => rfl
   | cons x l ih => unfold insE; split <;> simp [ih]
  rw [l]
  have := List.length_filter_le (fun x => !aheadP x f) es
  omega
theorem put_mem {es : List EvP} {f x : EvP} (h : x ∈ putE es f) : x = f ∨ x ∈ es := by
 unfold putE at h
 split at h
 ·
  exact .inr h
 ·
  rcases (insE_mem f x _).1 h with a | a
  ·
   exact .inl a
  ·
   exact .inr (List.mem_filter.1 a).1
theorem puts_len : ∀ (b a : List EvP), (b.foldl putE a).length ≤ a.length + b.length
 | [], a => by simp
 | f :: b, a => by
  have := puts_len b (putE a f)
  have := put_len a f
  rw [List.foldl_cons, List.length_cons]
  omega
end
section
open Go.RowKit
theorem str_ne {a b : List UInt8} (h : a ≠ b) : strOf a ≠ strOf b := fun e => h (strOf_inj e)
end
section
open Go.RowKit
def tv (x : List UInt8) : Value := .string (strOf x)
theorem flat_text (xs : List (List UInt8)) : textTy.flat xs = xs.map tv := by
 induction xs with
 | nil => rfl
 | cons x xs ih => rw [textTy.flat_cons, ih]; rfl
theorem cutA_count : ∀ (l acc : List UInt8), (cutA acc l).length = l.count 47 + 1
 | [], acc => by simp [cutA]
 | b :: l, acc => by
  unfold cutA
  by_cases h : b = 47
  ·
   subst h
   rw [if_pos rfl, List.length_cons, cutA_count l []]
   simp
  ·
   rw [if_neg h, cutA_count l _, List.count_cons_of_ne h]
theorem strcount_any (w : World) (l : List UInt8) : Calls Tryz.prog 215 #[.string (strOf l), .string ⟨#[47]⟩] w fun e w' => e = .returned (.int .i64 ((l.count 47 : Nat) : Int)) ∧ w' = w := by
 refine (Any.strings_Count_one Tryz.lays138 (strOf l) 47 w).mono ?_
 rintro e w' ⟨rfl, rfl⟩
 rw [strOf_data]
 exact ⟨rfl, rfl⟩
theorem run_mkT (n : Nat) (h : n ≤ 100000000) (w : World) : (Instr.makeSlice 108 (.int .i64 (n : Int)) (.int .i64 (n : Int))).run Tryz.prog w = .ok (.slice (some ⟨w.heap.size, 0, none⟩) n n) (w.alloc (.cells (Array.replicate n (tv [])) 9)) := by
 obtain ⟨i0, hi, hz0, hz1, hz2⟩ := info_parts textTy.info
 have hr := run_make (P := Tryz.prog) w 108 9 i0 (.string ⟨#[]⟩) textTy.under hi hz0 .i64 .i64 n n (by omega) (by omega) (by rw [hz2, show textTy.bytes = 16 from rfl]; omega) (by omega)
 rw [hr, hz1, Int.toNat_natCast]
 have e : madeCells (Value.string ⟨#[]⟩).cells n = (List.replicate n (tv [])).toArray := by
  apply Array.toList_inj.1
  show (madeCells #[.string ⟨#[]⟩] n).toList = _
  rw [toList_madeCells_one]
  simp [tv, strOf]
 rw [show textTy.k = 1 from rfl, Nat.mul_one, e, List.toArray_replicate]
theorem row_set (pre : List (List UInt8)) (x : List UInt8) (k : Nat) : (((pre ++ List.replicate (k + 1) []).map tv).toArray).setIfInBounds pre.length (.string (strOf x)) = ((((pre ++ [x]) ++ List.replicate k []).map tv).toArray) := by
 simp only [List.setIfInBounds_toArray]
 congr 1
 rw [List.map_append, List.map_append, List.set_append_right _ _ (by simp), List.length_map, Nat.sub_self, List.replicate_succ]
 simp [tv]
set_option maxRecDepth 100000 in
theorem genSplit_any (w : World) (l : List UInt8) (hlen : l.length ≤ 10000000) :
  Calls Tryz.prog 200 #[.string (strOf l), .string ⟨#[47]⟩, .int .i64 0, .int .i64 (-1)] w fun e w' => e = .returned (.slice (some ⟨w.heap.size, 0, none⟩) (cutL l).length (cutL l).length) ∧ w'.heap[w.heap.size]? = some (.cells ((cutL l).map tv).toArray 9 (0, 0)) ∧ Chg [] w w' := by
 obtain ⟨N, hN⟩ : ∃ N, (cutL l).length = N := ⟨_, rfl⟩
 have hcn : l.count 47 + 1 = N := by rw [← hN]; exact (cutA_count l []).symm
 have hNl : N ≤ l.length + 1 := by rw [← hN]; exact cutA_len l []
 have hs := strOf_size l
 have HN := h_ hN
 have HCN := h_ hcn
 rw [hN]
 have hN1 : ((l.count 47 : Nat) : Int) + 1 = (N : Int) := by omega
 have k1 : IntKind.i64.wrap ((N : Int)) = (N : Int) := IntWalk.i64_in _ (by omega)
 have k2 : IntKind.i64.wrap ((N : Int) - 1) = (N : Int) - 1 := IntWalk.i64_in _ (by omega)
 have hmk := fun W => run_mkT N (by omega) W
 have C1 := h_ (fun w => strcount_any w l)
 generalize hcc : ((l.count 47 : Nat) : Int) = cc at *
 have hmin : min (N : Int) ((l.length : Int) + 1) = (N : Int) := by omega
 have hN0 : 1 ≤ N := by have := HCN.out; omega
 obtain ⟨w5, hw5, c5, b5⟩ := news1 w (.cells (Array.replicate N (tv [])) 9)
 have W5 := h_ hw5
 have B5 := h_ (show w5.heap[w.heap.size]? = some (.cells ((List.replicate N []).map tv).toArray 9 (0, 0)) by rw [List.map_replicate, List.toArray_replicate]; exact b5)
 have C5 := h_ c5
 clear hN hcn hw5 c5 b5
 go_enter Tryz.func200, Tryz.ntmps200
 go_wp2_with fail
 refine (C1.out _).mono ?_
 rintro e w1 ⟨rfl, rfl⟩
 go_wp2
 rw [← W5.out]
 go_loopw [0, 10, 11] (fun v0 v10 v11 wr => ∃ (pre : List (List UInt8)) (rest : List UInt8), v0 = .string (strOf rest) ∧ v10 = .int .i64 (pre.length : Int) ∧ Hid (pre ++ cutA [] rest = cutL l ∧ rest.length ≤ l.length ∧ pre.length + rest.count 47 + 1 = N) ∧
   Hid (wr.heap[w1.heap.size]? = some (.cells ((pre ++ List.replicate (N - pre.length) []).map tv).toArray 9 (0, 0)) ∧ Chg [] w1 wr)) (fun _ v10 _ _ => N - (RowKit.intOf v10).toNat)
 case atStart => exact ⟨[], l, rfl, rfl, ⟨rfl, Nat.le_refl _, by have := HCN.out; simp; omega⟩, by simpa using B5.out, C5.out⟩
 case round =>
  obtain ⟨pre, rest, rfl, rfl, HP, HI⟩ := hrel
  rcases at47 rest with hno | ⟨a, b, rfl, hno⟩
  ·
   have hc0 : rest.count 47 = 0 := List.count_eq_zero.2 hno
   have hpl : pre.length + 1 = N := by have := HP.out.2.2; omega
   have i1 : ¬ ((pre.length : Int) < (N : Int) - 1) := by omega
   have i2 : (pre.length : Int) < (N : Int) := by omega
   have i3 : (0 : Int) ≤ (pre.length : Int) := by omega
   have i4 : (pre.length : Int) + 1 ≤ (N : Int) := by omega
   have k3 : IntKind.i64.wrap ((pre.length : Int) + 1) = (pre.length : Int) + 1 := IntWalk.i64_in _ (by omega)
   have hcut := HP.out.1
   rw [cutA_no _ _ hno, List.nil_append] at hcut
   have hq := HI.out.1
   rw [show N - pre.length = 0 + 1 by omega] at hq
   have f0 := free_of hq pre.length
   have q1 := heap_setCell_same wr w1.heap.size pre.length _ _ (.string (strOf rest)) hq
   rw [row_set, List.replicate_zero, List.append_nil, hcut] at q1
   have Q1 := h_ q1
   have CW := h_ (HI.out.2.setCell (p := ⟨w1.heap.size, pre.length, none⟩) (.inr (Nat.le_refl _)) (.string (strOf rest)))
   have z : ∃ u, wr.cell? ⟨w1.heap.size, pre.length, none⟩ = some u := ⟨.string (strOf []), by rw [cell_of hq]; simp [tv]⟩
   obtain ⟨u, z⟩ := z
   clear hq q1 hcut hno hc0; go_wp2; go_ret
   exact ⟨rfl, Q1.out, CW.out⟩
  ·
   have hcb : (a ++ 47 :: b).count 47 = b.count 47 + 1 := by
    rw [List.count_append, List.count_eq_zero.2 hno]
    simp
   have hpl : pre.length + b.count 47 + 2 = N := by have := HP.out.2.2; omega
   have ez : (strOf (a ++ 47 :: b)).size = a.length + 1 + b.length := by rw [strOf_size]; simp; omega
   have hrl' : a.length + 1 + b.length ≤ l.length := by have := HP.out.2.1; rw [← strOf_size, ez] at this; exact this
   have i0 : (0 : Int) ≤ (a.length : Int) := by omega
   have i1 : (pre.length : Int) < (N : Int) - 1 := by omega
   have i2 : (pre.length : Int) < (N : Int) := by omega
   have i3 : (0 : Int) ≤ (pre.length : Int) := by omega
   have i5 : ¬ ((a.length : Int) < 0) := by omega
   have i6 : (a.length : Int) ≤ ((strOf (a ++ 47 :: b)).size : Int) := by rw [ez]; omega
   have i7 : (a.length : Int) + 1 ≤ ((strOf (a ++ 47 :: b)).size : Int) := by rw [ez]; omega
   have i8 : a.length + 1 ≤ 140737488351232 := by omega
   have k3 : IntKind.i64.wrap ((pre.length : Int) + 1) = (pre.length : Int) + 1 := IntWalk.i64_in _ (by omega)
   have e1 : (strOf (a ++ 47 :: b)).extract 0 a.length = strOf a := by rw [strOf_ext]; simp
   have e2 : (strOf (a ++ 47 :: b)).extract (a.length + 1) (a.length + 1 + b.length) = strOf b := by
    rw [strOf_ext]
    congr 1
    rw [show (a ++ 47 :: b).drop (a.length + 1) = b by rw [show a ++ 47 :: b = (a ++ [47]) ++ b by simp]; exact List.drop_left' (by simp)]
    exact List.take_of_length_le (by omega)
   have hcut := HP.out.1
   rw [cutA_at _ _ _ hno, List.nil_append] at hcut
   have hq := HI.out.1
   rw [show N - pre.length = (N - (pre.length + 1)) + 1 by omega] at hq
   have f0 := free_of hq pre.length
   have q1 := heap_setCell_same wr w1.heap.size pre.length _ _ (.string (strOf a)) hq
   rw [row_set] at q1
   have Q1 := h_ q1
   have CW := h_ (HI.out.2.setCell (p := ⟨w1.heap.size, pre.length, none⟩) (.inr (Nat.le_refl _)) (.string (strOf a)))
   have z : ∃ u, wr.cell? ⟨w1.heap.size, pre.length, none⟩ = some u := ⟨.string (strOf []), by rw [cell_of hq]; simp [tv, List.replicate_succ]⟩
   obtain ⟨u, z⟩ := z
   have CI := h_ (fun w => index_at w a b hno)
   have HQ := h_ hcut
   have HPL := h_ hpl
   clear hq q1 hcut hno hcb hpl; go_wp2_with fail
   refine (CI.out _).mono ?_
   rintro e w2 ⟨rfl, rfl⟩
   go_wp2
   refine ⟨⟨pre ++ [a], b, ?_, by simp, ⟨by rw [← HQ.out]; simp, by omega, by have := HPL.out; simp; omega⟩, ⟨by have := Q1.out; simpa using this, CW.out⟩⟩, by simp [RowKit.intOf]; omega⟩
   first | rfl | (rw [e2]) | (simp only [ez, e2])
end
section
open Go.RowKit
theorem cb_self : ∀ x : List UInt8, Lib.compareBytes x x = 0
 | [] => rfl
 | b :: x => by simp [Lib.compareBytes, UInt8.lt_irrefl, cb_self x]
theorem cb_zero : ∀ x y : List UInt8, Lib.compareBytes x y = 0 → x = y
 | [], [], _ => rfl
 | [], _ :: _, h => by simp [Lib.compareBytes] at h
 | _ :: _, [], h => by simp [Lib.compareBytes] at h
 | a :: x, b :: y, h => by
  unfold Lib.compareBytes at h
  split at h
  ·
   simp at h
  ·
   split at h
   ·
    simp at h
   ·
    rename_i h1 h2
    have : a = b := UInt8.le_antisymm (UInt8.not_lt.1 h2) (UInt8.not_lt.1 h1)
    rw [this, cb_zero x y h]
def cmpT : List (List UInt8) → List (List UInt8) → Int
 | [], [] => 0
 | [], _ :: _ => -1
 | _ :: _, [] => 1
 | x :: xs, y :: ys => if Lib.compareBytes x y = 0 then cmpT xs ys else Lib.compareBytes x y
theorem cmpT_self : ∀ xs : List (List UInt8), cmpT xs xs = 0
 | [] => rfl
 | x :: xs => by rw [cmpT, if_pos (cb_self x), cmpT_self xs]
theorem cmpT_at (xs ys : List (List UInt8)) (k : Nat) (h1 : k < xs.length) (h2 : k < ys.length) :
  cmpT (xs.drop k) (ys.drop k) = if Lib.compareBytes xs[k] ys[k] = 0 then cmpT (xs.drop (k + 1)) (ys.drop (k + 1)) else Lib.compareBytes xs[k] ys[k] := by
 rw [List.drop_eq_getElem_cons h1, List.drop_eq_getElem_cons h2, cmpT]
theorem cmpT_end1 (xs ys : List (List UInt8)) (k : Nat) (h1 : k < xs.length) (h2 : ys.length ≤ k) : cmpT (xs.drop k) (ys.drop k) = 1 := by
 rw [List.drop_eq_getElem_cons h1, List.drop_of_length_le h2]
 rfl
theorem cmpT_end0 (xs ys : List (List UInt8)) (k : Nat) (h1 : xs.length ≤ k) (h2 : ys.length ≤ k) : cmpT (xs.drop k) (ys.drop k) = 0 := by
 rw [List.drop_of_length_le h1, List.drop_of_length_le h2]
 rfl
theorem cmpT_endm (xs ys : List (List UInt8)) (k : Nat) (h1 : xs.length ≤ k) (h2 : k < ys.length) : cmpT (xs.drop k) (ys.drop k) = -1 := by
 rw [List.drop_of_length_le h1, List.drop_eq_getElem_cons h2]
 rfl
theorem stCompare_any (w : World) (x y : List UInt8) : Calls Tryz.prog 171 #[.string (strOf x), .string (strOf y)] w fun e w' => e = .returned (.int .i64 (Lib.compareBytes x y)) ∧ w' = w := by
 refine (Any.strings_Compare Tryz.lays106 (strOf x) (strOf y) w).mono ?_
 rintro e w' ⟨rfl, rfl⟩
 rw [strOf_data, strOf_data]
 exact ⟨rfl, rfl⟩
set_option maxRecDepth 100000 in
theorem compareFunc_any (w : World) (A B : Option Addr) (c d : Nat) (xs ys : List (List UInt8)) (h : RdK textTy w A xs.length xs) (h' : RdK textTy w B ys.length ys) (hx : xs.length ≤ 100000000) (hy : ys.length ≤ 100000000) :
  Calls Tryz.prog 169 #[.slice A xs.length c, .slice B ys.length d, .func (.func 171) #[] #[]] w fun e w' => e = .returned (.int .i64 (cmpT xs ys)) ∧ w' = w := by
 obtain ⟨R, hR⟩ : ∃ R, cmpT xs ys = R := ⟨_, rfl⟩
 rw [hR]
 have HA := h_ h
 have HB := h_ h'
 have HR := h_ hR
 clear h h' hR
 go_enter Tryz.func169, Tryz.ntmps169
 go_wp2
 go_loopw [7, 8, 9, 10, 13] (fun v7 v8 v9 v10 v13 wr => ∃ k : Nat, k ≤ xs.length ∧ k ≤ ys.length ∧ v13 = .int .i64 (k : Int) ∧ Hid (cmpT (xs.drop k) (ys.drop k) = R) ∧ wr = w) (fun _ _ _ _ v13 _ => xs.length - (RowKit.intOf v13).toNat)
 case atStart => exact ⟨0, Nat.zero_le _, Nat.zero_le _, rfl, HR, rfl⟩
 case round =>
  obtain ⟨k, hk, hk2, rfl, HC, rfl⟩ := hrel
  have k1 : IntKind.i64.wrap ((k : Int) + 1) = (k : Int) + 1 := IntWalk.i64_in _ (by omega)
  have i0 : (0 : Int) ≤ (k : Int) := by omega
  by_cases hlt : k < xs.length
  ·
   have i1 : (k : Int) < (xs.length : Int) := by omega
   obtain ⟨g, o, eA, _⟩ := HA.out.line (by omega)
   subst eA
   have ex := List.getElem?_eq_getElem hlt
   have z := textCells HA.out ex
   by_cases hlt2 : k < ys.length
   ·
    have i2 : (k : Int) < (ys.length : Int) := by omega
    have i3 : ¬ ((ys.length : Int) ≤ (k : Int)) := by omega
    obtain ⟨g2, o2, eB, _⟩ := HB.out.line (by omega)
    subst eB
    have ey := List.getElem?_eq_getElem hlt2
    have z2 := textCells HB.out ey
    have HT := h_ (cmpT_at xs ys k hlt hlt2)
    generalize xs[k] = x at *
    generalize ys[k] = y at *
    have CS := h_ (fun w => stCompare_any w x y)
    generalize Lib.compareBytes x y = q at *
    clear ex ey
    by_cases hq : q = 0
    ·
     have HQ := h_ (HC.out.symm.trans (HT.out.trans (if_pos hq)))
     subst hq; go_wp2_with fail
     refine (CS.out _).mono ?_
     rintro e w2 ⟨rfl, rfl⟩
     go_wp2
     exact ⟨⟨k + 1, by omega, by omega, by simp, h_ HQ.out.symm, trivial⟩, by simp [RowKit.intOf]; omega⟩
    ·
     have HQ := h_ (HC.out.symm.trans (HT.out.trans (if_neg hq)))
     go_wp2_with fail
     refine (CS.out _).mono ?_
     rintro e w2 ⟨rfl, rfl⟩
     go_wp2; go_ret
     exact ⟨congrArg (fun v => Ending.returned (Value.int .i64 v)) HQ.out.symm, rfl⟩
   ·
    have i3 : ((ys.length : Int) ≤ (k : Int)) := by omega
    have HQ := h_ (HC.out.symm.trans (cmpT_end1 xs ys k hlt (by omega)))
    generalize xs[k] = x at *
    go_wp2; go_ret
    exact ⟨congrArg (fun v => Ending.returned (Value.int .i64 v)) HQ.out.symm, rfl⟩
  ·
   have i1 : ¬ ((k : Int) < (xs.length : Int)) := by omega
   by_cases hl2 : xs.length < ys.length
   ·
    have i4 : (xs.length : Int) < (ys.length : Int) := by omega
    have HQ := h_ (HC.out.symm.trans (cmpT_endm xs ys k (by omega) (by omega)))
    go_wp2; go_ret
    exact ⟨congrArg (fun v => Ending.returned (Value.int .i64 v)) HQ.out.symm, rfl⟩
   ·
    have i4 : ¬ ((xs.length : Int) < (ys.length : Int)) := by omega
    have HQ := h_ (HC.out.symm.trans (cmpT_end0 xs ys k (by omega) (by omega)))
    go_wp2; go_ret
    exact ⟨congrArg (fun v => Ending.returned (Value.int .i64 v)) HQ.out.symm, rfl⟩
theorem split_any (w : World) (l : List UInt8) (hlen : l.length ≤ 10000000) :
  Calls Tryz.prog 170 #[.string (strOf l), .string ⟨#[47]⟩] w fun e w' => e = .returned (.slice (some ⟨w.heap.size, 0, none⟩) (cutL l).length (cutL l).length) ∧ w'.heap[w.heap.size]? = some (.cells ((cutL l).map tv).toArray 9 (0, 0)) ∧ Chg [] w w' := by
 have CG := h_ (fun w => genSplit_any w l hlen)
 generalize cutL l = xs at *
 go_enter Tryz.func170, Tryz.ntmps170
 go_wp2_with fail
 refine (CG.out _).mono ?_
 rintro e w1 ⟨rfl, hq, hc⟩
 have HQ := h_ hq
 clear hq; go_wp2; go_ret
 exact ⟨rfl, HQ.out, hc⟩
theorem rd_text {w : World} {g : Nat} {xs : List (List UInt8)} (h : w.heap[g]? = some (.cells (xs.map tv).toArray 9 (0, 0))) (hm : xs.length ≤ maxLen) : RdK textTy w (some ⟨g, 0, none⟩) xs.length xs := by
 rw [← flat_text] at h
 exact (OwnK.of (R := textTy) (c := xs.length) (full := xs) (xs := xs) h (Nat.le_refl _) hm rfl (List.take_length ..)).reads
def lessL (a b : List UInt8) : Bool := decide (cmpT (cutL a) (cutL b) < 0)
theorem phcompare_any (w : World) (a b : List UInt8) (ha : a.length ≤ 10000000) (hb : b.length ≤ 10000000) :
  Calls Tryz.prog 114 #[.string (strOf a), .string (strOf b)] w fun e w' => e = .returned (.int .i64 (cmpT (cutL a) (cutL b))) ∧ Chg [] w w' := by
 by_cases hab : a = b
 ·
  subst hab
  rw [cmpT_self]
  have h1 : (a == a) = true := by simp
  go_enter Tryz.func114, Tryz.ntmps114
  go_wp2; go_ret
  exact ⟨rfl, Chg.refl _ _⟩
 ·
  have h1 : (a == b) = false := by simpa using hab
  have h2 := str_ne hab
  have S1 := h_ (fun w => split_any w a ha)
  have S2 := h_ (fun w => split_any w b hb)
  have L1 := h_ (show (cutL a).length ≤ 100000000 by have := cutA_len a []; show (cutA [] a).length ≤ _; omega)
  have L2 := h_ (show (cutL b).length ≤ 100000000 by have := cutA_len b []; show (cutA [] b).length ≤ _; omega)
  generalize cutL a = xs at *
  generalize cutL b = ys at *
  go_enter Tryz.func114, Tryz.ntmps114
  go_wp2_with fail
  refine (S1.out _).mono ?_
  rintro e w1 ⟨rfl, hq1, hc1⟩
  have Q1 := h_ hq1
  have C1 := h_ hc1
  have hg := lt_of_heap hq1
  clear hq1 hc1; go_wp2_with fail
  refine (S2.out _).mono ?_
  rintro e w2 ⟨rfl, hq2, hc2⟩
  have RA := h_ (rd_text (hc2.at_ Q1.out (by simp)) (by have := L1.out; unfold maxLen; omega))
  have RB := h_ (rd_text hq2 (by have := L2.out; unfold maxLen; omega))
  have C2 := h_ (C1.out.trans hc2)
  clear hq2 hc2; go_wp2_with fail
  refine (compareFunc_any _ _ _ _ _ xs ys RA.out RB.out L1.out L2.out).mono ?_
  rintro e w3 ⟨rfl, rfl⟩
  go_wp2; go_ret
  exact ⟨rfl, C2.out⟩
theorem phless_any (w : World) (a b : List UInt8) (ha : a.length ≤ 10000000) (hb : b.length ≤ 10000000) :
  Calls Tryz.prog 66 #[.string (strOf a), .string (strOf b)] w fun e w' => e = .returned (.bool (lessL a b)) ∧ Chg [] w w' := by
 have CC := h_ (fun w => phcompare_any w a b ha hb)
 unfold lessL
 generalize cmpT (cutL a) (cutL b) = q at *
 go_enter Tryz.func66, Tryz.ntmps66
 go_wp2_with fail
 refine (CC.out _).mono ?_
 rintro e w1 ⟨rfl, hc⟩
 go_wp2; go_ret
 exact ⟨rfl, hc⟩
end
section
theorem cb_anti : ∀ x y : List UInt8, Lib.compareBytes y x = - Lib.compareBytes x y
 | [], [] => rfl
 | [], _ :: _ => rfl
 | _ :: _, [] => rfl
 | a :: x, b :: y => by
  unfold Lib.compareBytes
  by_cases h1 : a < b
  ·
   have h2 : ¬ b < a := fun h => UInt8.lt_irrefl _ (UInt8.lt_trans h1 h)
   simp [h1, h2]
  ·
   by_cases h2 : b < a
   ·
    simp [h1, h2]
   ·
    simp [h1, h2, cb_anti x y]
theorem cb_trans : ∀ x y z : List UInt8, Lib.compareBytes x y < 0 → Lib.compareBytes y z < 0 → Lib.compareBytes x z < 0
 | [], [], _, h, _ => by simp [Lib.compareBytes] at h
 | _ :: _, [], _, h, _ => by simp [Lib.compareBytes] at h
 | _, _ :: _, [], _, h => by simp [Lib.compareBytes] at h
 | [], _ :: _, _ :: _, _, _ => by simp [Lib.compareBytes]
 | a :: x, b :: y, c :: z, h, k => by
  unfold Lib.compareBytes at h k ⊢
  by_cases h1 : a < b
  ·
   by_cases k1 : b < c
   ·
    rw [if_pos (UInt8.lt_trans h1 k1)]; decide
   ·
    rw [if_neg k1] at k
    by_cases k2 : c < b
    ·
     rw [if_pos k2] at k; exact absurd k (by decide)
    ·
     have : b = c := UInt8.le_antisymm (UInt8.not_lt.1 k2) (UInt8.not_lt.1 k1)
     subst this
     rw [if_pos h1]; decide
  ·
   rw [if_neg h1] at h
   by_cases h2 : b < a
   ·
    rw [if_pos h2] at h; exact absurd h (by decide)
   ·
    have : a = b := UInt8.le_antisymm (UInt8.not_lt.1 h2) (UInt8.not_lt.1 h1)
    subst this
    rw [if_neg h2] at h
    by_cases k1 : a < c
    ·
     rw [if_pos k1]; decide
    ·
     rw [if_neg k1] at k ⊢
     by_cases k2 : c < a
     ·
      rw [if_pos k2] at k; exact absurd k (by decide)
     ·
      rw [if_neg k2] at k ⊢
      exact cb_trans x y z h k
theorem cmpT_anti : ∀ xs ys : List (List UInt8), cmpT ys xs = - cmpT xs ys
 | [], [] => rfl
 | [], _ :: _ => rfl
 | _ :: _, [] => rfl
 | x :: xs, y :: ys => by
  unfold cmpT
  rw [cb_anti x y, cmpT_anti xs ys]
  by_cases h : Lib.compareBytes x y = 0
  ·
   rw [if_pos h, if_pos (by omega)]
  ·
   rw [if_neg h, if_neg (by omega)]
theorem cmpT_zero : ∀ xs ys : List (List UInt8), cmpT xs ys = 0 → xs = ys
 | [], [], _ => rfl
 | [], _ :: _, h => by simp [cmpT] at h
 | _ :: _, [], h => by simp [cmpT] at h
 | x :: xs, y :: ys, h => by
  unfold cmpT at h
  split at h
  ·
   rename_i h0
   rw [cb_zero x y h0, cmpT_zero xs ys h]
  ·
   exact absurd h ‹_›
theorem cmpT_trans : ∀ xs ys zs : List (List UInt8), cmpT xs ys < 0 → cmpT ys zs < 0 → cmpT xs zs < 0
 | [], [], _, h, _ => by simp [cmpT] at h
 | _ :: _, [], _, h, _ => by simp [cmpT] at h
 | _, _ :: _, [], _, h => by simp [cmpT] at h
 | [], _ :: _, _ :: _, _, _ => by simp [cmpT]
 | x :: xs, y :: ys, z :: zs, h, k => by
  unfold cmpT at h k ⊢
  by_cases h0 : Lib.compareBytes x y = 0
  ·
   have := cb_zero x y h0
   subst this
   rw [if_pos h0] at h
   by_cases k0 : Lib.compareBytes x z = 0
   ·
    rw [if_pos k0] at k ⊢
    exact cmpT_trans xs ys zs h k
   ·
    rw [if_neg k0] at k ⊢
    exact k
  ·
   rw [if_neg h0] at h
   by_cases k0 : Lib.compareBytes y z = 0
   ·
    have := cb_zero y z k0
    subst this
    rw [if_neg h0]
    exact h
   ·
    rw [if_neg k0] at k
    have := cb_trans x y z h k
    rw [if_neg (by omega)]
    exact this
def unc : List (List UInt8) → List UInt8
 | [] => []
 | [x] => x
 | x :: y :: r => x ++ 47 :: unc (y :: r)
theorem unc_cons (x : List UInt8) (r : List (List UInt8)) (h : r ≠ []) : unc (x :: r) = x ++ 47 :: unc r := by
 cases r with
 | nil => exact absurd rfl h
 | cons y r => rfl
theorem unc_cut : ∀ (l acc : List UInt8), unc (cutA acc l) = acc ++ l
 | [], acc => by simp [cutA, unc]
 | b :: l, acc => by
  unfold cutA
  split
  ·
   rename_i h
   rw [unc_cons _ _ (cutA_ne _ _), unc_cut l [], h]
   rfl
  ·
   rw [unc_cut l _, List.append_assoc]
   rfl
theorem cut_inj {a b : List UInt8} (h : cutL a = cutL b) : a = b := by
 have h1 := unc_cut a []
 have h2 := unc_cut b []
 rw [show cutA [] a = cutL a from rfl, h] at h1
 rw [show cutA [] b = cutL b from rfl] at h2
 rw [h2] at h1
 exact h1.symm
theorem less_self (a : List UInt8) : lessL a a = false := by simp [lessL, cmpT_self]
theorem less_not (a b : List UInt8) (h : lessL a b = true) : lessL b a = false := by
 simp only [lessL, decide_eq_true_eq, decide_eq_false_iff_not] at h ⊢
 rw [cmpT_anti (cutL a) (cutL b)]
 omega
theorem less_eq (a b : List UInt8) : (a == b) = (!lessL a b && !lessL b a) := by
 rw [Bool.eq_iff_iff]
 simp only [beq_iff_eq, lessL, Bool.and_eq_true, Bool.not_eq_true', decide_eq_false_iff_not]
 rw [cmpT_anti (cutL a) (cutL b)]
 constructor
 ·
  rintro rfl
  rw [cmpT_self]
  omega
 ·
  rintro ⟨h1, h2⟩
  exact cut_inj (cmpT_zero _ _ (by omega))
theorem less_trans (a b c : List UInt8) (h : lessL a b = true) (k : lessL b c = true) : lessL a c = true := by
 simp only [lessL, decide_eq_true_eq] at h k ⊢
 exact cmpT_trans _ _ _ h k
end
section
open Go.RowKit Go.Lib

theorem sorted_ext {α : Type} {r : α → α → Prop} (irr : ∀ a, ¬ r a a) (tr : ∀ a b c, r a b → r b c → r a c) : ∀ {l m : List α}, l.Pairwise r → m.Pairwise r → (∀ x, x ∈ l ↔ x ∈ m) → l = m
 | [], [], _, _, _ => rfl
 | [], y :: m, _, _, h => absurd ((h y).2 (by simp)) (by simp)
 | x :: l, [], _, _, h => absurd ((h x).1 (by simp)) (by simp)
 | x :: l, y :: m, hl, hm, h => by
  have pl := List.pairwise_cons.1 hl
  have pm := List.pairwise_cons.1 hm
  have e : x = y := by
   rcases List.mem_cons.1 ((h x).1 (by simp)) with a | a
   ·
    exact a
   ·
    rcases List.mem_cons.1 ((h y).2 (by simp)) with b | b
    ·
     exact b.symm
    ·
     exact absurd (tr _ _ _ (pl.1 y b) (pm.1 x a)) (irr x)
  subst e
  congr 1
  refine sorted_ext irr tr pl.2 pm.2 (fun z => ?_)
  constructor
  ·
   intro hz
   rcases List.mem_cons.1 ((h z).1 (by simp [hz])) with a | a
   ·
    exact absurd (a ▸ pl.1 z hz) (irr z)
   ·
    exact a
  ·
   intro hz
   rcases List.mem_cons.1 ((h z).2 (by simp [hz])) with a | a
   ·
    exact absurd (a ▸ pm.1 z hz) (irr z)
   ·
    exact a
theorem less_ne {a b : List UInt8} (h : lessL a b = true) : a ≠ b := fun e => by
 rw [e, less_self] at h; cases h
theorem less_tri (a b : List UInt8) : a = b ∨ lessL a b = true ∨ lessL b a = true := by
 have h := less_eq a b
 by_cases q : a = b
 ·
  exact .inl q
 ·
  rcases h1 : lessL a b with _ | _
  ·
   rcases h2 : lessL b a with _ | _
   ·
    rw [h1, h2] at h
    simp at h
    exact absurd h q
   ·
    exact .inr (.inr rfl)
  ·
   exact .inr (.inl rfl)
end
section
open Go.RowKit Go.Lib

def ltS (a b : EvP) : Prop := lessL a.p b.p = true ∨ (a.p = b.p ∧ LtEv a b)
theorem ltS_irr (a : EvP) : ¬ ltS a a := by
 rintro (h | h)
 ·
  rw [less_self] at h; cases h
 ·
  exact LtEv.irr a h.2
theorem ltS_tr (a b c : EvP) (h : ltS a b) (k : ltS b c) : ltS a c := by
 rcases h with h | h <;> rcases k with k | k
 ·
  exact .inl (less_trans _ _ _ h k)
 ·
  exact .inl (k.1 ▸ h)
 ·
  exact .inl (h.1 ▸ k)
 ·
  exact .inr ⟨h.1.trans k.1, h.2.tr k.2⟩
def atS (s : List EvP) (p : List UInt8) : List EvP := s.filter (fun x => decide (x.p = p))
theorem mem_atS {s : List EvP} {p : List UInt8} {x : EvP} : x ∈ atS s p ↔ x ∈ s ∧ x.p = p := by
 unfold atS
 rw [List.mem_filter, decide_eq_true_eq]
def putS (s : List EvP) (e : EvP) : List EvP := s.filter (fun x => lessL x.p e.p) ++ (putE (atS s e.p) e ++ s.filter (fun x => lessL e.p x.p))
def StOf (S l : List EvP) : Prop := l.Pairwise ltS ∧ ∀ p, ShOf (atS S p) (atS l p)
theorem stOf_nil : StOf [] [] := ⟨List.Pairwise.nil, fun p => shOf_nil⟩
theorem stOf_mem {S l : List EvP} (h : StOf S l) (x : EvP) : x ∈ l ↔ TopE (atS S x.p) x := by
 rw [← (h.2 x.p).2 x, mem_atS]
 exact ⟨fun a => ⟨a, rfl⟩, fun a => a.1⟩
theorem stOf_same {S T l m : List EvP} (h : ∀ x, x ∈ S ↔ x ∈ T) (hl : StOf S l) (hm : StOf T m) : l = m :=
 sorted_ext ltS_irr ltS_tr hl.1 hm.1 (fun x => by
  rw [stOf_mem hl, stOf_mem hm]
  exact top_same (fun y => by rw [mem_atS, mem_atS, h y]) x)
theorem atS_cons_same (e : EvP) (S : List EvP) : atS (e :: S) e.p = e :: atS S e.p := by
 unfold atS
 rw [List.filter_cons, if_pos (by simp)]
theorem atS_cons_ne {e : EvP} {p : List UInt8} (h : e.p ≠ p) (S : List EvP) : atS (e :: S) p = atS S p := by
 unfold atS
 rw [List.filter_cons, if_neg (by simpa using h)]
theorem atS_app (a b : List EvP) (p : List UInt8) : atS (a ++ b) p = atS a p ++ atS b p := by
 unfold atS
 rw [List.filter_append]
theorem atS_all {a : List EvP} {p : List UInt8} (h : ∀ x ∈ a, x.p = p) : atS a p = a := by
 unfold atS
 exact List.filter_eq_self.2 (fun x hx => decide_eq_true (h x hx))
theorem atS_none {a : List EvP} {p : List UInt8} (h : ∀ x ∈ a, x.p ≠ p) : atS a p = [] := by
 unfold atS
 exact List.filter_eq_nil_iff.2 (fun x hx => by simpa using h x hx)
theorem atS_filter {a : List EvP} {p : List UInt8} {q : EvP → Bool} (h : ∀ x ∈ a, x.p = p → q x = true) : atS (a.filter q) p = atS a p := by
 unfold atS
 rw [List.filter_filter]
 exact List.filter_congr (fun x hx => by
  by_cases e : x.p = p
  ·
   rw [h x hx e]; simp
  ·
   simp [e])
theorem putE_path {s : List EvP} {e : EvP} : ∀ x ∈ putE (atS s e.p) e, x.p = e.p := put_path (p := e.p) (fun x hx => (mem_atS.1 hx).2) rfl
theorem put_st {U S l : List EvP} {e : EvP} (hU : closedE U = true) (hS : ∀ x ∈ S, x ∈ U) (he : e ∈ U) (h : StOf S l) : StOf (e :: S) (putS l e) := by
 have sh : ShOf (e :: atS S e.p) (putE (atS l e.p) e) := put_top hU (fun x hx => hS x (mem_atS.1 hx).1) he (h.2 e.p)
 refine ⟨?_, fun p => ?_⟩
 ·
  unfold putS
  rw [List.pairwise_append, List.pairwise_append]
  refine ⟨h.1.sublist List.filter_sublist, ⟨?_, h.1.sublist List.filter_sublist, fun a ha b hb => ?_⟩, fun a ha b hb => ?_⟩
  ·
   refine List.Pairwise.imp_of_mem (fun {a b} ha hb hab => ?_) sh.1
   exact .inr ⟨(putE_path a ha).trans (putE_path b hb).symm, hab⟩
  ·
   have h2 := (List.mem_filter.1 hb).2
   exact .inl (by rw [putE_path a ha]; exact h2)
  ·
   have h1 := (List.mem_filter.1 ha).2
   rcases List.mem_append.1 hb with q | q
   ·
    exact .inl (by rw [putE_path b q]; exact h1)
   ·
    exact .inl (less_trans _ _ _ h1 (List.mem_filter.1 q).2)
 ·
  unfold putS
  rw [atS_app, atS_app]
  by_cases hp : p = e.p
  ·
   subst hp
   rw [atS_none (a := l.filter (fun x => lessL x.p e.p)) (fun x hx => less_ne (List.mem_filter.1 hx).2), atS_none (a := l.filter (fun x => lessL e.p x.p)) (fun x hx q => less_ne (List.mem_filter.1 hx).2 q.symm), atS_all putE_path, atS_cons_same]
   simpa using sh
  ·
   rw [atS_none (a := putE (atS l e.p) e) (fun x hx q => hp (q.symm.trans (putE_path x hx))), atS_cons_ne (fun q => hp q.symm), List.nil_append]
   rcases less_tri p e.p with q | q | q
   ·
    exact absurd q hp
   ·
    rw [atS_filter (a := l) (q := fun x => lessL x.p e.p) (fun x _ ex => by show lessL x.p e.p = true; rw [ex]; exact q), atS_none (a := l.filter (fun x => lessL e.p x.p)) (fun x hx ex => by
     have t := (List.mem_filter.1 hx).2
     have t : lessL e.p x.p = true := t
     rw [ex, less_not _ _ q] at t
     cases t), List.append_nil]
    exact h.2 p
   ·
    rw [atS_filter (a := l) (q := fun x => lessL e.p x.p) (fun x _ ex => by show lessL e.p x.p = true; rw [ex]; exact q), atS_none (a := l.filter (fun x => lessL x.p e.p)) (fun x hx ex => by
     have t := (List.mem_filter.1 hx).2
     have t : lessL x.p e.p = true := t
     rw [ex, less_not _ _ q] at t
     cases t), List.nil_append]
    exact h.2 p
theorem puts_st {U : List EvP} (hU : closedE U = true) : ∀ (T S l : List EvP), (∀ x ∈ S, x ∈ U) → (∀ x ∈ T, x ∈ U) → StOf S l → StOf (T.reverse ++ S) (T.foldl putS l)
 | [], S, l, _, _, h => h
 | e :: T, S, l, hS, hT, h => by
  have := puts_st hU T (e :: S) (putS l e) (fun x hx => by
   rcases List.mem_cons.1 hx with a | a
   ·
    rw [a]; exact hT e (by simp)
   ·
    exact hS x a) (fun x hx => hT x (by simp [hx])) (put_st hU hS (hT e (by simp)) h)
  simpa using this
theorem puts_store {U T : List EvP} (hU : closedE U = true) (hT : ∀ x ∈ T, x ∈ U) : StOf T (T.foldl putS []) := by
 have h := puts_st hU T [] [] (by simp) hT stOf_nil
 rw [List.append_nil] at h
 refine ⟨h.1, fun p => ?_⟩
 have q := h.2 p
 refine ⟨q.1, fun x => (q.2 x).trans (top_same (fun y => ?_) x)⟩
 rw [mem_atS, mem_atS, List.mem_reverse]
theorem stOf_sub {S l : List EvP} (h : StOf S l) : ∀ x ∈ l, x ∈ S := fun x hx => (mem_atS.1 ((stOf_mem h x).1 hx).1).1
theorem join_st {U S T l m : List EvP} (hU : closedE U = true) (hS : ∀ x ∈ S, x ∈ U) (hT : ∀ x ∈ T, x ∈ U) (hl : StOf S l) (hm : StOf T m) : StOf (S ++ T) (m.foldl putS l) := by
 have h := puts_st hU m S l hS (fun x hx => hT x (stOf_sub hm x hx)) hl
 refine ⟨h.1, fun p => ?_⟩
 have a := join_top hU (S := atS S p) (T := atS T p) (fun x hx => hS x (mem_atS.1 hx).1) (fun x hx => hT x (mem_atS.1 hx).1) (hl.2 p) (hm.2 p)
 have b := puts_top hU (atS m p) (atS S p) (atS l p) (fun x hx => hS x (mem_atS.1 hx).1) (fun x hx => hT x (stOf_sub hm x (mem_atS.1 hx).1)) (hl.2 p)
 have c : atS (m.foldl putS l) p = (atS m p).foldl putE (atS l p) := shOf_same (fun x => by
  rw [mem_atS, List.mem_append, List.mem_append, List.mem_reverse, List.mem_reverse, mem_atS, mem_atS]
  constructor
  ·
   rintro ⟨q | q, r⟩
   ·
    exact .inl ⟨q, r⟩
   ·
    exact .inr ⟨q, r⟩
  ·
   rintro (⟨q, r⟩ | ⟨q, r⟩)
   ·
    exact ⟨.inl q, r⟩
   ·
    exact ⟨.inr q, r⟩) (h.2 p) b
 rw [c, atS_app]
 exact a
theorem st_joins {U L R B : List EvP} (hU : closedE U = true) (hL : ∀ x ∈ L, x ∈ U) (hR : ∀ x ∈ R, x ∈ U) (hB : ∀ x, x ∈ B ↔ x ∈ L ∨ x ∈ R) : (R.foldl putS []).foldl putS (L.foldl putS []) = B.foldl putS [] :=
 stOf_same (fun x => by rw [List.mem_append, hB]) (join_st hU hL hR (puts_store hU hL) (puts_store hU hR)) (puts_store hU (fun x hx => ((hB x).1 hx).elim (hL x) (hR x)))
end
section
open Go.RowKit Go.Lib

def leP (a b : EvP) : Prop := a.p = b.p ∨ lessL a.p b.p = true
instance (a b : EvP) : Decidable (leP a b) := by unfold leP; exact inferInstance
def dotNe (a b : EvP) : Prop := ¬ (a.n = b.n ∧ a.s = b.s)
instance (a b : EvP) : Decidable (dotNe a b) := by unfold dotNe; exact inferInstance
def StOk (s : List EvP) : Prop := s.Pairwise leP ∧ s.Pairwise dotNe ∧ ∀ e ∈ s, ShOk (atS s e.p)
instance (s : List EvP) : Decidable (StOk s) := by unfold StOk; exact inferInstance
def stE (s : List EvP) : Int := if StOk s then 0 else 2
def elseE (s : List EvP) (e : EvP) : Bool := s.any (fun x => decide (x.n = e.n ∧ x.s = e.s) && !decide (x.p = e.p))
def stPut (s : List EvP) (e : EvP) : Int × List EvP := if ¬ (StOk s ∧ chkEv e = 0) then (2, []) else if elseE s e = true then (7, []) else (0, putS s e)
def stFold (s : List EvP) : List EvP → Int × List EvP
 | [] => (0, s)
 | e :: l => if elseE s e = true then (7, []) else stFold (putS s e) l
def stJoin (a b : List EvP) : Int × List EvP := if StOk a ∧ StOk b then stFold a b else (2, [])
theorem stE_zero {s : List EvP} : stE s = 0 ↔ StOk s := by unfold stE; split <;> simp_all
theorem stE_two (s : List EvP) : stE s = 0 ∨ stE s = 2 := by unfold stE; split <;> simp
theorem stOk_at {s : List EvP} (h : StOk s) (p : List UInt8) : ShOk (atS s p) := by
 by_cases q : ∃ e ∈ s, e.p = p
 ·
  obtain ⟨e, he, rfl⟩ := q
  exact h.2.2 e he
 ·
  have e : atS s p = [] := atS_none (fun x hx ex => q ⟨x, hx, ex⟩)
  rw [e]
  simp [ShOk]
theorem stOk_chk {s : List EvP} (h : StOk s) : ∀ e ∈ s, chkEv e = 0 := fun e he => (h.2.2 e he).1 e (mem_atS.2 ⟨he, rfl⟩)
theorem else_no {s : List EvP} {e : EvP} (h : elseE s e = false) : ∀ x ∈ s, x.n = e.n ∧ x.s = e.s → x.p = e.p := fun x hx hd => by
 by_cases q : x.p = e.p
 ·
  exact q
 ·
  have : elseE s e = true := List.any_eq_true.2 ⟨x, hx, by simp [hd, q]⟩
  rw [h] at this
  cases this
theorem putE_in {l : List EvP} {e x : EvP} (h : x ∈ putE l e) : x ∈ l ∨ (x = e ∧ ∀ y ∈ l, dotNe y e) := by
 unfold putE at h
 by_cases q : stayE l e = true
 ·
  rw [if_pos q] at h
  exact .inl h
 ·
  rw [if_neg q] at h
  have q : stayE l e = false := by simpa using q
  rcases (insE_mem e x _).1 h with r | r
  ·
   exact .inr ⟨r, fun y hy => (stay_no q y hy).1⟩
  ·
   exact .inl (List.mem_filter.1 r).1
theorem dotNe_comm {a b : EvP} (h : dotNe a b) : dotNe b a := fun q => h ⟨q.1.symm, q.2.symm⟩
theorem dots_up {l : List EvP} (h : l.Pairwise LtEv) : l.Pairwise dotNe := h.imp (fun {a b} hab q => by unfold LtEv LtD at hab; omega)
theorem stOk_put {s : List EvP} {e : EvP} (h : StOk s) (he : chkEv e = 0) (hn : elseE s e = false) : StOk (putS s e) := by
 have sh := stOk_at h e.p
 have ok : ShOk (putE (atS s e.p) e) := put_ok sh he (fun x hx => (mem_atS.1 hx).2)
 have sep : ∀ x ∈ putE (atS s e.p) e, ∀ y ∈ s, y.p ≠ e.p → dotNe x y := fun x hx y hy hp => by
  rcases putE_in hx with a | a
  ·
   have hx := mem_atS.1 a
   intro q
   have : x = y ∨ dotNe x y := by
    by_cases e1 : x = y
    ·
     exact .inl e1
    ·
     right
     have hd := h.2.1
     obtain ⟨i, hi⟩ := List.getElem?_of_mem hx.1
     obtain ⟨k, hk⟩ := List.getElem?_of_mem hy
     obtain ⟨li, ei⟩ := List.getElem?_eq_some_iff.1 hi
     obtain ⟨lk, ek⟩ := List.getElem?_eq_some_iff.1 hk
     rcases Nat.lt_trichotomy i k with c | c | c
     ·
      have := List.pairwise_iff_getElem.1 hd i k li lk c
      rwa [ei, ek] at this
     ·
      subst c
      rw [hi] at hk
      cases hk
      exact absurd rfl e1
     ·
      have := List.pairwise_iff_getElem.1 hd k i lk li c
      rw [ei, ek] at this
      exact dotNe_comm this
   rcases this with e1 | e1
   ·
    rw [e1] at hx
    exact hp hx.2
   ·
    exact e1 q
  ·
   intro q
   rw [a.1] at q
   exact hp (else_no hn y hy ⟨q.1.symm, q.2.symm⟩)
 refine ⟨?_, ?_, fun x hx => ?_⟩
 ·
  unfold putS
  rw [List.pairwise_append, List.pairwise_append]
  refine ⟨h.1.sublist List.filter_sublist, ⟨?_, h.1.sublist List.filter_sublist, fun a ha b hb => ?_⟩, fun a ha b hb => ?_⟩
  ·
   rw [List.pairwise_iff_forall_sublist]
   intro a b hab
   have ha := hab.subset (show a ∈ [a, b] by simp)
   have hb := hab.subset (show b ∈ [a, b] by simp)
   exact .inl ((putE_path a ha).trans (putE_path b hb).symm)
  ·
   have h2 := (List.mem_filter.1 hb).2
   exact .inr (by rw [putE_path a ha]; exact h2)
  ·
   have h1 := (List.mem_filter.1 ha).2
   rcases List.mem_append.1 hb with q | q
   ·
    exact .inr (by rw [putE_path b q]; exact h1)
   ·
    exact .inr (less_trans _ _ _ h1 (List.mem_filter.1 q).2)
 ·
  unfold putS
  rw [List.pairwise_append, List.pairwise_append]
  have sub : ∀ a ∈ s.filter (fun x => lessL x.p e.p), ∀ b ∈ s.filter (fun x => lessL e.p x.p), dotNe a b := fun a ha b hb q => by
   have ha := List.mem_filter.1 ha
   have hb := List.mem_filter.1 hb
   have ne : a ≠ b := fun e1 => by
    have t1 : lessL a.p e.p = true := ha.2
    have t2 : lessL e.p b.p = true := hb.2
    rw [e1, less_not _ _ t2] at t1
    cases t1
   obtain ⟨i, hi⟩ := List.getElem?_of_mem ha.1
   obtain ⟨k, hk⟩ := List.getElem?_of_mem hb.1
   obtain ⟨li, ei⟩ := List.getElem?_eq_some_iff.1 hi
   obtain ⟨lk, ek⟩ := List.getElem?_eq_some_iff.1 hk
   rcases Nat.lt_trichotomy i k with c | c | c
   ·
    have := List.pairwise_iff_getElem.1 h.2.1 i k li lk c
    rw [ei, ek] at this
    exact this q
   ·
    subst c
    rw [hi] at hk
    cases hk
    exact ne rfl
   ·
    have := List.pairwise_iff_getElem.1 h.2.1 k i lk li c
    rw [ei, ek] at this
    exact dotNe_comm this q
  refine ⟨h.2.1.sublist List.filter_sublist, ⟨dots_up ok.2.2.1, h.2.1.sublist List.filter_sublist, fun a ha b hb => ?_⟩, fun a ha b hb => ?_⟩
  ·
   have hb := List.mem_filter.1 hb
   exact sep a ha b hb.1 (fun q => less_ne (show lessL e.p b.p = true from hb.2) q.symm)
  ·
   rcases List.mem_append.1 hb with q | q
   ·
    have ha := List.mem_filter.1 ha
    exact dotNe_comm (sep b q a ha.1 (less_ne (show lessL a.p e.p = true from ha.2)))
   ·
    exact sub a ha b q
 ·
  have key : ∀ p, ShOk (atS (putS s e) p) := fun p => by
   unfold putS
   rw [atS_app, atS_app]
   by_cases hp : p = e.p
   ·
    subst hp
    rw [atS_none (a := s.filter (fun x => lessL x.p e.p)) (fun x hx => less_ne (List.mem_filter.1 hx).2), atS_none (a := s.filter (fun x => lessL e.p x.p)) (fun x hx q => less_ne (List.mem_filter.1 hx).2 q.symm), atS_all putE_path]
    simpa using ok
   ·
    rw [atS_none (a := putE (atS s e.p) e) (fun x hx q => hp (q.symm.trans (putE_path x hx))), List.nil_append]
    rcases less_tri p e.p with q | q | q
    ·
     exact absurd q hp
    ·
     rw [atS_filter (a := s) (q := fun x => lessL x.p e.p) (fun x _ ex => by show lessL x.p e.p = true; rw [ex]; exact q), atS_none (a := s.filter (fun x => lessL e.p x.p)) (fun x hx ex => by
      have t := (List.mem_filter.1 hx).2
      have t : lessL e.p x.p = true := t
      rw [ex, less_not _ _ q] at t
      cases t), List.append_nil]
     exact stOk_at h p
    ·
     rw [atS_filter (a := s) (q := fun x => lessL e.p x.p) (fun x _ ex => by show lessL e.p x.p = true; rw [ex]; exact q), atS_none (a := s.filter (fun x => lessL x.p e.p)) (fun x hx ex => by
      have t := (List.mem_filter.1 hx).2
      have t : lessL x.p e.p = true := t
      rw [ex, less_not _ _ q] at t
      cases t), List.nil_append]
     exact stOk_at h p
  exact key x.p
theorem stPut_yes {s : List EvP} {e : EvP} (h : StOk s) (he : chkEv e = 0) (hn : elseE s e = false) : stPut s e = (0, putS s e) := by
 unfold stPut
 rw [if_neg (fun q => q ⟨h, he⟩), if_neg (by rw [hn]; decide)]
theorem else_closed {U s : List EvP} {e : EvP} (hU : closedE U = true) (hs : ∀ x ∈ s, x ∈ U) (he : e ∈ U) : elseE s e = false := by
 rcases q : elseE s e with _ | _
 ·
  rfl
 ·
  obtain ⟨x, hx, h⟩ := List.any_eq_true.1 q
  simp only [Bool.and_eq_true, decide_eq_true_eq, Bool.not_eq_true', decide_eq_false_iff_not] at h
  have := cl_dot hU (hs x hx) he h.1.1 h.1.2
  rw [this] at h
  exact absurd rfl h.2
theorem stOf_ok {U S l : List EvP} (hU : closedE U = true) (hS : ∀ x ∈ S, x ∈ U) (h : StOf S l) : StOk l := by
 have sub := stOf_sub h
 refine ⟨h.1.imp (fun {a b} hab => hab.elim .inr (fun q => .inl q.1)), ?_, fun e he => ?_⟩
 ·
  refine List.Pairwise.imp_of_mem (fun {a b} ha hb hab q => ?_) h.1
  have e1 := cl_dot hU (hS a (sub a ha)) (hS b (sub b hb)) q.1 q.2
  rw [e1] at hab
  exact ltS_irr b hab
 ·
  have q := h.2 e.p
  refine ⟨fun x hx => cl_chk hU (hS x (sub x (mem_atS.1 hx).1)), fun x hx y hy => (mem_atS.1 hx).2.trans (mem_atS.1 hy).2.symm, q.1, fun x hx y hy => ?_⟩
  exact ((q.2 x).1 hx).2 y ((q.2 y).1 hy).1
end
section
open Go.RowKit Go.Lib

def StOk0 (s : List EvP) : Prop := s.Pairwise leP ∧ ∀ e ∈ s, ShOk (atS s e.p)
theorem stOk_iff {s : List EvP} : StOk s ↔ StOk0 s ∧ s.Pairwise dotNe := by
 unfold StOk StOk0
 exact ⟨fun h => ⟨⟨h.1, h.2.2⟩, h.2.1⟩, fun h => ⟨h.1.1, h.2, h.1.2⟩⟩
theorem shOk_sub {l m : List EvP} (h : ShOk m) (s : l.Sublist m) : ShOk l :=
 ⟨fun e he => h.1 e (s.subset he), fun e he f hf => h.2.1 e (s.subset he) f (s.subset hf), h.2.2.1.sublist s, fun e he f hf => h.2.2.2 e (s.subset he) f (s.subset hf)⟩
theorem shOk_nil : ShOk [] := by simp [ShOk]
theorem st0_nil : StOk0 [] := ⟨List.Pairwise.nil, by simp⟩
theorem st0_run {s r : List EvP} (h : StOk0 s) (hr : ShOk r) (hp : ∀ x ∈ s, ∀ y ∈ r, lessL x.p y.p = true) : StOk0 (s ++ r) := by
 refine ⟨List.pairwise_append.2 ⟨h.1, ?_, fun a ha b hb => .inr (hp a ha b hb)⟩, fun e he => ?_⟩
 ·
  rw [List.pairwise_iff_forall_sublist]
  intro a b hab
  exact .inl (hr.2.1 a (hab.subset (by simp)) b (hab.subset (by simp)))
 ·
  rw [atS_app]
  rcases List.mem_append.1 he with q | q
  ·
   rw [atS_none (a := r) (fun y hy ey => less_ne (hp e q y hy) ey.symm), List.append_nil]
   exact h.2 e q
  ·
   rw [atS_none (a := s) (fun y hy => less_ne (hp y hy e q)), atS_all (a := r) (fun x hx => hr.2.1 x hx e q), List.nil_append]
   exact hr
theorem st0_run_no {s r t : List EvP} {p : List UInt8} (hr : ∀ x ∈ r, x.p = p) (h : StOk0 (s ++ (r ++ t))) : ShOk r := by
 rcases r with _ | ⟨e, r⟩
 ·
  exact shOk_nil
 ·
  have q := h.2 e (by simp)
  rw [hr e (by simp)] at q
  refine shOk_sub q ?_
  rw [atS_app, atS_app, atS_all hr]
  exact (List.sublist_append_left _ _).trans (List.sublist_append_right _ _)
theorem st0_less {s : List EvP} {i k : Nat} {a b : EvP} (h : s.Pairwise leP) (ha : s[i]? = some a) (hb : s[k]? = some b) (hik : i < k) (hne : a.p ≠ b.p) : lessL a.p b.p = true := by
 obtain ⟨li, ei⟩ := List.getElem?_eq_some_iff.1 ha
 obtain ⟨lk, ek⟩ := List.getElem?_eq_some_iff.1 hb
 have := List.pairwise_iff_getElem.1 h i k li lk hik
 rw [ei, ek] at this
 rcases this with q | q
 ·
  exact absurd q hne
 ·
  exact q
def segL {α : Type} (l : List α) (k m : Nat) : List α := (l.take m).drop k
theorem take_seg {α : Type} (l : List α) {k m : Nat} (h : k ≤ m) : l.take m = l.take k ++ segL l k m := by
 unfold segL
 have := (List.take_append_drop k (l.take m)).symm
 rw [List.take_take, Nat.min_eq_left h] at this
 exact this
theorem seg_all {α : Type} (l : List α) {k m : Nat} (h : k ≤ m) : l = l.take k ++ (segL l k m ++ l.drop m) := by
 rw [← List.append_assoc, ← take_seg l h, List.take_append_drop]
theorem seg_len {α : Type} (l : List α) {k m : Nat} (h : m ≤ l.length) : (segL l k m).length = m - k := by
 unfold segL
 rw [List.length_drop, List.length_take, Nat.min_eq_left h]
theorem seg_get {α : Type} (l : List α) {k m i : Nat} (h : k + i < m) : (segL l k m)[i]? = l[k + i]? := by
 unfold segL
 rw [List.getElem?_drop, List.getElem?_take, if_pos h]
theorem seg_get_no {α : Type} (l : List α) {k m i : Nat} (h : ¬ k + i < m) : (segL l k m)[i]? = none := by
 unfold segL
 rw [List.getElem?_drop, List.getElem?_take, if_neg h]
def pathE (es : List EvP) (i : Nat) : Option (List UInt8) := (es[i]?).map (fun e => e.p)
structure RunAt (es : List EvP) (k m : Nat) : Prop where
 lt : k < m
 le : m ≤ es.length
 same : ∀ i, k ≤ i → i < m → pathE es i = pathE es k
 stop : m < es.length → pathE es m ≠ pathE es k
theorem pathE_some {es : List EvP} {i : Nat} {e : EvP} (h : es[i]? = some e) : pathE es i = some e.p := by
 unfold pathE
 rw [h]
 rfl
theorem RunAt.seg_path {es : List EvP} {k m : Nat} (h : RunAt es k m) {b : EvP} (hb : es[k]? = some b) : ∀ x ∈ segL es k m, x.p = b.p := fun x hx => by
 obtain ⟨i, hi⟩ := List.getElem?_of_mem hx
 by_cases q : k + i < m
 ·
  rw [seg_get es q] at hi
  have := h.same (k + i) (by omega) q
  rw [pathE_some hi, pathE_some hb] at this
  exact Option.some.inj this
 ·
  rw [seg_get_no es q] at hi
  cases hi
theorem run_step {es : List EvP} {j k m : Nat} {a b : EvP} (h0 : StOk0 (es.take k)) (h : RunAt es k m) (hb : es[k]? = some b) (hsh : ShOk (segL es k m)) (hk : k = 0 ∨ (RunAt es j k ∧ es[j]? = some a ∧ lessL a.p b.p = true)) : StOk0 (es.take m) := by
 rw [take_seg es (Nat.le_of_lt h.lt)]
 refine st0_run h0 hsh (fun x hx y hy => ?_)
 rw [h.seg_path hb y hy]
 rcases hk with rfl | ⟨r, ha, hl⟩
 ·
  simp at hx
 ·
  obtain ⟨i, hi⟩ := List.getElem?_of_mem hx
  have ik : i < k := by
   rw [List.getElem?_take] at hi
   split at hi
   ·
    assumption
   ·
    cases hi
  by_cases q : x.p = a.p
  ·
   rw [q]; exact hl
  ·
   refine less_trans _ _ _ ?_ hl
   by_cases ij : i < j
   ·
    exact st0_less h0.1 hi (by rw [List.getElem?_take, if_pos r.lt]; exact ha) ij q
   ·
    rw [List.getElem?_take, if_pos ik] at hi
    have := r.same i (by omega) ik
    rw [pathE_some hi, pathE_some ha] at this
    exact absurd (Option.some.inj this) q
theorem run_bad1 {es : List EvP} {k m : Nat} {b : EvP} (h : RunAt es k m) (hb : es[k]? = some b) (no : ¬ ShOk (segL es k m)) : ¬ StOk es := fun q => no (by
 have q := (stOk_iff.1 q).1
 rw [seg_all es (Nat.le_of_lt h.lt)] at q
 exact st0_run_no (h.seg_path hb) q)
theorem run_bad2 {es : List EvP} {j k : Nat} {a b : EvP} (r : RunAt es j k) (ha : es[j]? = some a) (hb : es[k]? = some b) (no : lessL a.p b.p = false) : ¬ StOk es := fun q => by
 have hk : k < es.length := (List.getElem?_eq_some_iff.1 hb).1
 have := st0_less q.1 ha hb r.lt (fun e => r.stop hk (by rw [pathE_some ha, pathE_some hb, e]))
 rw [no] at this
 cases this
/-! How many different ones there are -/
theorem addKey_len : ∀ (l acc : List Lit), (l.foldl Go.Maps.addKey acc).length ≤ acc.length + l.length
 | [], acc => Nat.le_refl _
 | x :: l, acc => by
  rw [List.foldl_cons]
  refine Nat.le_trans (addKey_len l _) ?_
  unfold Go.Maps.addKey
  split <;> simp <;> omega
theorem addKey_full (isK : ∀ x : Lit, WideAt.IsKeyLit x → x.sameKey x = true) : ∀ (l acc : List Lit), (∀ x ∈ l, WideAt.IsKeyLit x) → (∀ x ∈ acc, WideAt.IsKeyLit x) → ((l.foldl Go.Maps.addKey acc).length = acc.length + l.length ↔ (∀ x ∈ l, x ∉ acc) ∧ l.Pairwise (· ≠ ·))
 | [], acc, _, _ => by simp
 | x :: l, acc, hl, ha => by
  rw [List.foldl_cons]
  by_cases q : x ∈ acc
  ·
   have e : Go.Maps.addKey acc x = acc := by
    unfold Go.Maps.addKey
    have hany : acc.any (fun y => y.sameKey x) = true := List.any_eq_true.2 ⟨x, q, isK x (hl x (by simp))⟩
    rw [if_pos hany]
   rw [e]
   constructor
   ·
    intro h
    have := addKey_len l acc
    simp at h
    omega
   ·
    intro h
    exact absurd q (h.1 x (by simp))
  ·
   have e : Go.Maps.addKey acc x = acc ++ [x] := by
    unfold Go.Maps.addKey
    rw [if_neg]
    intro h
    obtain ⟨y, hy, hs⟩ := List.any_eq_true.1 h
    exact q (WideAt.sameKey_eq hs ▸ hy)
   rw [e]
   have ih := addKey_full isK l (acc ++ [x]) (fun y hy => hl y (by simp [hy])) (fun y hy => by
    rcases List.mem_append.1 hy with r | r
    ·
     exact ha y r
    ·
     simp at r; rw [r]; exact hl x (by simp))
   have e2 : (acc ++ [x]).length + l.length = acc.length + (x :: l).length := by simp; omega
   rw [← e2, ih]
   constructor
   ·
    rintro ⟨h1, h2⟩
    refine ⟨fun y hy => ?_, List.pairwise_cons.2 ⟨fun y hy ey => h1 y hy (by simp [ey]), h2⟩⟩
    rcases List.mem_cons.1 hy with r | r
    ·
     rw [r]; exact q
    ·
     exact fun m => h1 y r (by simp [m])
   ·
    rintro ⟨h1, h2⟩
    have hp := List.pairwise_cons.1 h2
    refine ⟨fun y hy m => ?_, hp.2⟩
    rcases List.mem_append.1 m with r | r
    ·
     exact h1 y (by simp [hy]) r
    ·
     simp at r; exact hp.1 y hy r.symm
theorem setOf_full {H : Type} (u : DataW H) (l : List Lit) (h : ∀ x ∈ l, WideAt.IsKeyLit x) : Go.Maps.size (Go.Maps.setOf u l) ≤ l.length ∧ (Go.Maps.size (Go.Maps.setOf u l) = l.length ↔ l.Pairwise (· ≠ ·)) := by
 have e : Go.Maps.size (Go.Maps.setOf u l) = (l.foldl Go.Maps.addKey []).length := Go.Maps.size_setOf u l h
 have a := addKey_len l []
 have b := addKey_full (fun x hx => WideAt.sameKey_self hx) l [] h (by simp)
 simp only [List.length_nil, Nat.zero_add] at a b
 rw [e]
 refine ⟨a, b.trans ⟨fun q => q.2, fun q => ⟨by simp, q⟩⟩⟩
def dotLit (e : EvP) : Lit := .string (keyBytes [.int .i64 e.n, .int .i64 e.s])
theorem dotLit_key (e : EvP) : WideAt.IsKeyLit (dotLit e) := trivial
def dotSetE (es : List EvP) : DataW Unit := Go.Maps.setOf (.agg []) (es.map dotLit)
theorem dotSetE_snoc (es : List EvP) (e : EvP) : dotSetE (es ++ [e]) = (dotSetE es).put (dotLit e) (.agg []) := by
 unfold dotSetE
 rw [List.map_append]
 exact Go.Maps.setOf_snoc _ _ _
theorem dotSetE_len (es : List EvP) (inj : ∀ a ∈ es, ∀ b ∈ es, dotLit a = dotLit b ↔ (a.n = b.n ∧ a.s = b.s)) : Go.Maps.size (dotSetE es) ≤ es.length ∧ (¬ Go.Maps.size (dotSetE es) < es.length ↔ es.Pairwise dotNe) := by
 have h := setOf_full (H := Unit) (.agg []) (es.map dotLit) (fun x hx => by
  obtain ⟨e, _, rfl⟩ := List.mem_map.1 hx
  exact dotLit_key e)
 rw [List.length_map] at h
 refine ⟨h.1, ?_⟩
 have e1 : (¬ Go.Maps.size (dotSetE es) < es.length) ↔ Go.Maps.size (dotSetE es) = es.length := by
  have := h.1
  unfold dotSetE
  omega
 rw [e1]
 unfold dotSetE
 rw [h.2, List.pairwise_map]
 constructor
 ·
  intro q
  exact List.Pairwise.imp_of_mem (fun {a b} ha hb hab r => hab ((inj a ha b hb).2 r)) q
 ·
  intro q
  exact List.Pairwise.imp_of_mem (fun {a b} ha hb hab r => hab ((inj a ha b hb).1 r)) q
end
end Go.Proofs.YtehmchdhlhchjaaGreatDoor
