/- Spans in any order made a past, as the document does it: plain functions. No function of the program is named here. The pasts that may be, as lists of spans in order. No memory here. past: Count, Last. event.Check. The kit's CopyEffect. A writer, a reader that were made since a world w, and all that was there is as it was: the calls in this form. Package effect: compare, Same, Less, Size, Bytes. Package effect: Read. The document's Check of a past. Package past: Bytes; the document's. The document's Bytes of a past. -/
import Derived.Test.YtgbidlhgmeglmaaGreatDoorZera
import Derived.Test.YtgbidlhgmeglmaaGreatDoorZerc
import Derived.Test.YtgbidlhgmeglmaaGreatDoorZerb
import Derived.Deep.Cut
import Derived.Deep.RegionHeld3
import Derived.Deep.CutRange
import Derived.Deep.QuietTactic
import Derived.BigQuiet
namespace Go.Proofs.YtgbidlhgmeglmaaGreatDoor
section
set_option linter.unusedSimpArgs false
set_option linter.unusedVariables false

/-- One comes ahead of the other one. -/
def Lt3 (x y : Sp) : Prop := x.1 < y.1 ∨ x.1 = y.1 ∧ (x.2.1 < y.2.1 ∨ x.2.1 = y.2.1 ∧ x.2.2 < y.2.2)
instance (x y : Sp) : Decidable (Lt3 x y) := by unfold Lt3; exact inferInstance
def cntS (x : Sp) : List Sp → Nat
  | [] => 0
  | y :: l => if Lt3 y x then cntS x l + 1 else 0
def insS (x : Sp) (l : List Sp) : List Sp := l.take (cntS x l) ++ x :: l.drop (cntS x l)
def riseS (l : List Sp) : List Sp := l.foldl (fun r x => insS x r) []
def tidyS (l : List Sp) : List Sp := (riseS l).foldl pushP []
theorem cntS_le (x : Sp) : ∀ l, cntS x l ≤ l.length
  | [] => Nat.le_refl _
  | y :: l => by unfold cntS; split <;> have := cntS_le x l <;> simp <;> omega
theorem cntS_lt (x : Sp) : ∀ (l : List Sp) (i : Nat) (y : Sp), l[i]? = some y → i < cntS x l → Lt3 y x
  | [], i, y, h, _ => by simp at h
  | z :: l, 0, y, h, hi => by
    simp at h; subst h
    unfold cntS at hi
    split at hi
    · assumption
    · omega
  | z :: l, i + 1, y, h, hi => by
    unfold cntS at hi
    split at hi
    · exact cntS_lt x l i y (by simpa using h) (by omega)
    · omega
theorem cntS_at (x : Sp) : ∀ (l : List Sp) (y : Sp), l[cntS x l]? = some y → ¬ Lt3 y x
  | [], y, h => by simp at h
  | z :: l, y, h => by
    unfold cntS at h
    split at h
    · exact cntS_at x l y (by simpa using h)
    · simp at h; subst h; assumption
theorem insS_len (x : Sp) (l : List Sp) : (insS x l).length = l.length + 1 := by
  unfold insS
  have := cntS_le x l
  simp; omega
theorem insS_mem (x y : Sp) (l : List Sp) : y ∈ insS x l ↔ y = x ∨ y ∈ l := by
  unfold insS
  rw [List.mem_append, List.mem_cons]
  conv => rhs; rw [← List.take_append_drop (cntS x l) l, List.mem_append]
  constructor
  · rintro (h | h | h)
    · exact .inr (.inl h)
    · exact .inl h
    · exact .inr (.inr h)
  · rintro (h | h | h)
    · exact .inr (.inl h)
    · exact .inl h
    · exact .inr (.inr h)
def Ge3 (x y : Sp) : Prop := ¬ Lt3 y x
theorem Ge3.le {x y : Sp} (h : Ge3 x y) : Le x y := by unfold Ge3 Lt3 Le at *; omega
theorem insS_up (x : Sp) (l : List Sp) (h : l.Pairwise Ge3) : (insS x l).Pairwise Ge3 := by
  unfold insS
  have hs : (l.take (cntS x l) ++ l.drop (cntS x l)).Pairwise Ge3 := by rw [List.take_append_drop]; exact h
  rw [List.pairwise_append] at hs ⊢
  obtain ⟨a, b, c⟩ := hs
  have hd : ∀ y ∈ l.drop (cntS x l), Ge3 x y := by
    cases hdr : l.drop (cntS x l) with
    | nil => simp
    | cons z r =>
      have hz : l[cntS x l]? = some z := by
        have : (l.drop (cntS x l))[0]? = some z := by rw [hdr]; rfl
        simpa using this
      have hg : Ge3 x z := cntS_at x l z hz
      rw [hdr] at b
      intro y hy
      rcases List.mem_cons.1 hy with rfl | q
      · exact hg
      · have := (List.pairwise_cons.1 b).1 y q
        unfold Ge3 Lt3 at *
        omega
  have ht : ∀ y ∈ l.take (cntS x l), Lt3 y x := fun y hy => by
    obtain ⟨i, hi, rfl⟩ := List.getElem_of_mem hy
    rw [List.length_take] at hi
    rw [List.getElem_take]
    exact cntS_lt x l i _ (List.getElem?_eq_getElem (by omega)) (by omega)
  refine ⟨a, List.pairwise_cons.2 ⟨hd, b⟩, fun y hy z hz => ?_⟩
  rcases List.mem_cons.1 hz with rfl | q
  · have := ht y hy
    unfold Ge3 Lt3 at *
    omega
  · exact c y hy z q
theorem fold_ins : ∀ (l r : List Sp), r.Pairwise Ge3 → (l.foldl (fun r x => insS x r) r).Pairwise Ge3 ∧ (∀ y, y ∈ l.foldl (fun r x => insS x r) r ↔ y ∈ l ∨ y ∈ r) ∧ (l.foldl (fun r x => insS x r) r).length = l.length + r.length
  | [], r, h => ⟨h, by simp, by simp⟩
  | x :: l, r, h => by
    obtain ⟨a, b, c⟩ := fold_ins l (insS x r) (insS_up x r h)
    rw [List.foldl_cons]
    refine ⟨a, fun y => ?_, by rw [c, insS_len]; simp; omega⟩
    rw [b y, insS_mem, List.mem_cons]
    constructor
    · rintro (q | q | q); exact .inl (.inr q); exact .inl (.inl q); exact .inr q
    · rintro ((q | q) | q); exact .inr (.inl q); exact .inl q; exact .inr (.inr q)
theorem rise_props (l : List Sp) : (riseS l).Pairwise Ge3 ∧ (∀ y, y ∈ riseS l ↔ y ∈ l) ∧ (riseS l).length = l.length := by
  obtain ⟨a, b, c⟩ := fold_ins l [] List.Pairwise.nil
  exact ⟨a, fun y => by rw [show riseS l = l.foldl (fun r x => insS x r) [] from rfl, b y]; simp, by rw [show riseS l = l.foldl (fun r x => insS x r) [] from rfl, c]; simp⟩
theorem pair_le {l : List Sp} (h : l.Pairwise Ge3) : l.Pairwise Le := h.imp (fun q => q.le)
theorem mem_same {l m : List Sp} (h : ∀ y, y ∈ l ↔ y ∈ m) (n s : Int) : Mem l n s ↔ Mem m n s := ⟨fun ⟨x, hx, hi⟩ => ⟨x, (h x).1 hx, hi⟩, fun ⟨x, hx, hi⟩ => ⟨x, (h x).2 hx, hi⟩⟩
theorem tidy_norm {l : List Sp} (h : ∀ x ∈ l, SpOk x) : Norm (tidyS l) ∧ ∀ n s, Mem (tidyS l) n s ↔ Mem l n s := by
  obtain ⟨a, b, c⟩ := rise_props l
  obtain ⟨d, e⟩ := fold_norm (zs := riseS l) norm_nil (fun z hz => h z ((b z).1 hz)) (pair_le a) (by simp)
  exact ⟨d, fun n s => by rw [show tidyS l = (riseS l).foldl pushP [] from rfl, e n s, mem_same b n s]; exact ⟨fun q => q.resolve_left mem_nil, .inr⟩⟩
/-- All numbers are small. -/
def B3 (x : Sp) : Prop := 1 ≤ x.1 ∧ x.1 ≤ 200 ∧ 1 ≤ x.2.1 ∧ x.2.1 ≤ x.2.2 ∧ x.2.2 ≤ 2147483647
end
section
set_option linter.unusedSimpArgs false
set_option linter.unusedVariables false

theorem ok_some : ∀ (l : List Sp) (y : Sp), y.2.1 ≤ y.2.2 → okFrom (some y) l = true → (∀ x ∈ l, FineS x.1 x.2.1 x.2.2 ∧ Ap y x) ∧ l.Pairwise Ap
  | [], y, _, _ => ⟨by simp, List.Pairwise.nil⟩
  | x :: l, y, hy, h => by
    simp only [okFrom, Bool.and_eq_true, decide_eq_true_eq] at h
    obtain ⟨⟨h1, h2⟩, h3⟩ := h
    have ox : x.2.1 ≤ x.2.2 := h1.2.2.2.1
    obtain ⟨a, b⟩ := ok_some l x ox h3
    have hyx : Ap y x := h2
    refine ⟨fun z hz => ?_, List.pairwise_cons.2 ⟨fun z hz => (a z hz).2, b⟩⟩
    rcases List.mem_cons.1 hz with rfl | q
    · exact ⟨h1, hyx⟩
    · exact ⟨(a z q).1, hyx.trans (a z q).2 ox⟩
theorem some_ok : ∀ (l : List Sp) (y : Sp), (∀ x ∈ l, FineS x.1 x.2.1 x.2.2 ∧ Ap y x) → l.Pairwise Ap → okFrom (some y) l = true
  | [], y, _, _ => rfl
  | x :: l, y, h, hp => by
    have hp' := List.pairwise_cons.1 hp
    simp only [okFrom, Bool.and_eq_true, decide_eq_true_eq]
    exact ⟨⟨(h x (by simp)).1, (h x (by simp)).2⟩, some_ok l x (fun z hz => ⟨(h z (by simp [hz])).1, hp'.1 z hz⟩) hp'.2⟩
theorem wf_of_chk {xs : List Sp} (h : chkS xs = 0) : WfC xs ∧ xs.length ≤ 4000 := by
  unfold chkS at h
  split at h
  · rename_i hc
    refine ⟨?_, hc.1⟩
    cases xs with
    | nil => exact ⟨norm_nil, by simp⟩
    | cons x l =>
      have h2 := hc.2
      simp only [okFrom, Bool.and_eq_true, decide_eq_true_eq] at h2
      obtain ⟨h1, h3⟩ := h2
      have ox : x.2.1 ≤ x.2.2 := h1.2.2.2.1
      obtain ⟨a, b⟩ := ok_some l x ox h3
      have fine : ∀ z ∈ x :: l, FineS z.1 z.2.1 z.2.2 := fun z hz => by
        rcases List.mem_cons.1 hz with rfl | q
        · exact h1
        · exact (a z q).1
      exact ⟨⟨fun z hz => (fine z hz).2.2.2.1, List.pairwise_cons.2 ⟨fun z hz => (a z hz).2, b⟩⟩, fun z hz => by have := fine z hz; unfold FineS at this; omega⟩
  · exact absurd h (by decide)
theorem chk_of_wf {xs : List Sp} (h : WfC xs) (hl : xs.length ≤ 4000) : chkS xs = 0 := by
  unfold chkS
  rw [if_pos]
  refine ⟨hl, ?_⟩
  have fine : ∀ z ∈ xs, FineS z.1 z.2.1 z.2.2 := fun z hz => by
    have := h.2 z hz
    have o := h.1.1 z hz
    unfold FineS SpOk at *
    omega
  cases xs with
  | nil => rfl
  | cons x l =>
    have hp := List.pairwise_cons.1 h.1.2
    simp only [okFrom, Bool.and_eq_true, decide_eq_true_eq]
    exact ⟨fine x (by simp), some_ok l x (fun z hz => ⟨fine z (by simp [hz]), hp.1 z hz⟩) hp.2⟩
theorem chk_two (xs : List Sp) : chkS xs = 0 ∨ chkS xs = 2 := by unfold chkS; split <;> simp
end
section
open Go.RowKit Go.Lib
set_option linter.unusedSimpArgs false
set_option linter.unusedVariables false


def lastL (node : Int) (xs : List Sp) : Int := xs.foldl (fun n x => if x.1 = node then x.2.2 else n) 0
theorem last_snoc (node : Int) (xs : List Sp) (x : Sp) : lastL node (xs ++ [x]) = if x.1 = node then x.2.2 else lastL node xs := by simp [lastL]
set_option maxRecDepth 100000 in
theorem laststep_any (w : World) (n : Int) (x : Sp) (b : Nat) (node : Int) (hb : w.heap[b]? = some (.cells #[.int .i64 node] 3 (0, 0))) : Calls Tryz.prog 102 #[.int .i64 n, .agg #[.int .i64 x.1, .int .i64 x.2.1, .int .i64 x.2.2], .pointer (some ⟨b, 0, none⟩)] w fun e w' => e = .returned (.int .i64 (if x.1 = node then x.2.2 else n)) ∧ Chg [] w w' := by
  obtain ⟨w1, hw1, c1, b1⟩ := news1 w (.cells #[.int .i64 x.1, .int .i64 x.2.1, .int .i64 x.2.2] 62)
  have z := cell_of (c1.at_ hb (by simp)) 0
  simp only [List.getElem?_toArray, List.getElem?_cons_zero] at z
  have W1 := Lib.hid hw1
  have C1 := Lib.hid c1
  have y0 := cell_of b1 0
  have y2 := cell_of b1 2
  simp only [List.getElem?_toArray, List.getElem?_cons_succ, List.getElem?_cons_zero] at y0 y2
  clear hw1 c1 b1 hb
  by_cases h : x.1 = node
  · rw [if_pos h]
    have q : ((x.1 == node) : Bool) = true := by simpa using h
    clear h
    go_enter Tryz.func102, Tryz.ntmps102
    go_upto_region 1 with fail
    rw [← W1.out]
    generalize w.heap.size = g0 at *
    go_wp2
    go_ret
    exact ⟨rfl, C1.out⟩
  · rw [if_neg h]
    have q : ((x.1 == node) : Bool) = false := by simpa using h
    clear h
    go_enter Tryz.func102, Tryz.ntmps102
    go_upto_region 1 with fail
    rw [← W1.out]
    generalize w.heap.size = g0 at *
    go_wp2
    go_ret
    exact ⟨rfl, C1.out⟩
set_option maxRecDepth 100000 in
set_option maxHeartbeats 4000000 in
theorem foldlast_any (w : World) (A : Option Addr) (c : Nat) (xs : List Sp) (b : Nat) (node : Int) (h : RdK spanTy w A xs.length xs) (hn : xs.length ≤ 4000) (hb : w.heap[b]? = some (.cells #[.int .i64 node] 3 (0, 0))) :
    Calls Tryz.prog 101 #[.slice A xs.length c, .int .i64 0, .func (.func 102) #[] #[.pointer (some ⟨b, 0, none⟩)]] w fun e w' => e = .returned (.int .i64 (lastL node xs)) ∧ Chg [] w w' := by
  have HX := Lib.hid h
  have HY := Lib.hid (hb)
  clear h hb
  go_enter Tryz.func101, Tryz.ntmps101
  go_wp2
  go_loopw [1, 11] (fun v1 v11 wr => ∃ (k : Nat), k ≤ xs.length ∧ v1 = .int .i64 (lastL node (xs.take k)) ∧ v11 = .int .i64 k ∧ Hid (Chg [] w wr)) (fun _ v11 _ => xs.length - (RowKit.intOf v11).toNat)
  case atStart => exact ⟨0, Nat.zero_le _, rfl, rfl, Chg.refl _ _⟩
  case round =>
    obtain ⟨k, hk, rfl, rfl, HI⟩ := hrel
    generalize wr = w4 at *
    clear wr
    by_cases hlt : k < xs.length
    · have ex := List.getElem?_eq_getElem hlt
      obtain ⟨g, o, eA, _⟩ := HX.out.line (by omega)
      subst eA
      have R4 := HX.out.chg HI.out (by simp)
      generalize hxx : xs[k] = x at *
      obtain ⟨q0, q1, q2⟩ := spanCells R4 ex
      have i0 : (0 : Int) ≤ (k : Int) := by omega
      have i1 : (k : Int) < (xs.length : Int) := by omega
      have e2 : lastL node (xs.take (k + 1)) = if x.1 = node then x.2.2 else lastL node (xs.take k) := by rw [List.take_add_one, ex]; exact last_snoc _ _ _
      have E2 := Lib.hid e2
      have EX := Lib.hid ex
      have LK := Lib.hid (show (xs.take k).length ≤ 4000 by rw [List.length_take]; omega)
      have SUB := Lib.hid (fun y (hy : y ∈ xs.take k) => List.mem_of_mem_take hy)
      clear R4 ex e2 hxx
      generalize hm : lastL node (xs.take k) = m at *
      have HM := Lib.hid hm
      clear hm
      obtain ⟨w5, hw5, c5, b5⟩ := news1 w4 (.cells #[.int .i64 x.1, .int .i64 x.2.1, .int .i64 x.2.2] 62)
      have W5 := Lib.hid hw5
      have B5 := Lib.hid b5
      have C5 := Lib.hid (HI.out.trans c5)
      clear hw5 c5
      go_upto_region 4 with fail
      rw [← W5.out]
      generalize w4.heap.size = g4 at *
      have y0 := cell_of B5.out 0
      have y1 := cell_of B5.out 1
      have y2 := cell_of B5.out 2
      simp only [List.getElem?_toArray, List.getElem?_cons_succ, List.getElem?_cons_zero] at y0 y1 y2
      go_wp2_with fail
      refine (laststep_any w5 m x b node (C5.out.at_ HY.out (by simp))).mono ?_
      rintro e w6 ⟨rfl, hcc⟩
      have CE := Lib.hid (C5.out.trans hcc)
      clear hcc q0 q1 q2 y0 y1 y2
      go_wp2
      go_round
      case rel => exact ⟨k + 1, by omega, by rw [E2.out], by go_num, CE.out⟩
      case measure => simp [RowKit.intOf]; omega
    · obtain rfl : k = xs.length := by omega
      rw [show xs.take xs.length = xs from List.take_length]
      go_wp2
      go_ret
      exact ⟨rfl, HI.out⟩
set_option maxHeartbeats 2000000 in
theorem last_any (w : World) (A : Option Addr) (c : Nat) (xs : List Sp) (node : Int) (h : RdK spanTy w A xs.length xs) (hn : xs.length ≤ 140737488351232) :
    Calls Tryz.prog 39 #[.slice A xs.length c, .int .i64 node] w fun e w' => e = .returned (.int .i64 (if chkS xs = 0 then lastL node xs else 0)) ∧ Chg [] w w' := by
  have H := Lib.hid h
  have HN := Lib.hid hn
  clear h hn
  rcases chk_two xs with e1 | e1
  · rw [if_pos e1]
    have WF := Lib.hid (wf_of_chk e1)
    obtain ⟨w0, hw0, c0, b0⟩ := news1 w (.cells #[.int .i64 node] 3)
    have W0 := Lib.hid hw0
    have C0 := Lib.hid c0
    have B0 := Lib.hid b0
    replace H := Lib.hid (H.out.chg c0 (by simp))
    clear hw0 c0 b0
    go_enter Tryz.func39, Tryz.ntmps39
    go_wp2_with fail
    rw [← W0.out]
    generalize w.heap.size = g0 at *
    refine (pacheck_any w0 A _ c xs H.out HN.out).mono ?_
    rintro e w1 ⟨rfl, h1⟩
    rw [e1]
    have C1 := Lib.hid h1
    clear h1
    go_wp2_with fail
    refine (foldlast_any w1 A c xs g0 node (H.out.chg C1.out (by simp)) WF.out.2 (C1.out.at_ B0.out (by simp))).mono ?_
    rintro e w2 ⟨rfl, h2⟩
    have C2 := Lib.hid (C1.out.trans h2)
    clear h2
    go_wp2
    go_ret
    exact ⟨rfl, C0.out.trans C2.out⟩
  · rw [if_neg (by omega)]
    obtain ⟨w0, hw0, c0, b0⟩ := news1 w (.cells #[.int .i64 node] 3)
    have W0 := Lib.hid hw0
    have C0 := Lib.hid c0
    have B0 := Lib.hid b0
    replace H := Lib.hid (H.out.chg c0 (by simp))
    clear hw0 c0 b0
    go_enter Tryz.func39, Tryz.ntmps39
    go_wp2_with fail
    rw [← W0.out]
    generalize w.heap.size = g0 at *
    refine (pacheck_any w0 A _ c xs H.out HN.out).mono ?_
    rintro e w1 ⟨rfl, h1⟩
    rw [e1]
    have C1 := Lib.hid h1
    clear h1
    go_wp2
    go_ret
    exact ⟨rfl, C0.out.trans C1.out⟩
end
section
open Go.RowKit Go.Lib
set_option linter.unusedSimpArgs false
set_option linter.unusedVariables false


/-- May an event be? Part by part. -/
def evOk (e : EvP) : Nat → Prop
  | 0 => chkD e.n e.s = 0
  | 1 => checkL 6 12 e.p = true
  | 2 => chkE e.k e.m e.b.length = 0
  | 3 => chkS e.q = 0
  | _ => (if chkS e.q = 0 then lastL e.n e.q else 0) < e.s
instance (e : EvP) (i : Nat) : Decidable (evOk e i) := by unfold evOk; split <;> exact inferInstance
def EvOk (e : EvP) : Prop := evOk e 0 ∧ evOk e 1 ∧ evOk e 2 ∧ evOk e 3 ∧ evOk e 4
instance (e : EvP) : Decidable (EvOk e) := by unfold EvOk; exact inferInstance
/-- Why an event may not be. -/
def chkEv (e : EvP) : Int := if EvOk e then 0 else 2
theorem chkEv_no {e : EvP} (i : Nat) (hi : i ≤ 4) (h : ¬ evOk e i) : chkEv e = 2 := by
  unfold chkEv
  rw [if_neg]
  rintro ⟨h0, h1, h2, h3, h4⟩
  match i, hi with
  | 0, _ => exact h h0
  | 1, _ => exact h h1
  | 2, _ => exact h h2
  | 3, _ => exact h h3
  | 4, _ => exact h h4
theorem chkEv_yes {e : EvP} (h : ∀ i, i < 5 → evOk e i) : chkEv e = 0 := by
  unfold chkEv
  rw [if_pos ⟨h 0 (by omega), h 1 (by omega), h 2 (by omega), h 3 (by omega), h 4 (by omega)⟩]
theorem chkEv_two (e : EvP) : chkEv e = 0 ∨ chkEv e = 2 := by unfold chkEv; split <;> simp
/-- Its size in memory: what the walks want. -/
def EvSm (e : EvP) : Prop := e.p.length ≤ 10000000 ∧ e.b.length ≤ 140737488351232 ∧ e.q.length ≤ 140737488351232
theorem below_chg8 {w w' : World} (h : Below w.heap.size w w') : Chg [] w w' := Chg.ofBelow h (by omega) []

set_option maxRecDepth 100000 in
set_option maxHeartbeats 4000000 in
theorem evadot_any (w : World) (g : Nat) (x : EvT) (e : EvP) (hg : w.heap[g]? = some (.cells #[.int .i64 x.n, .int .i64 x.s, .string x.p, .int .i64 x.k, .int .i64 x.m, .slice x.A x.l x.c, .slice x.B x.bl x.bc] 77 (0, 0))) (h : EvR w x e) (hs : EvSm e) :
    Calls Tryz.prog 58 #[.pointer (some ⟨g, 0, none⟩)] w fun r w' => r = .returned (.bool (decide (evOk e 0))) ∧ Chg [] w w' := by
  have z0 := cell_of hg 0
  have z1 := cell_of hg 1
  simp only [List.getElem?_toArray, List.getElem?_cons_succ, List.getElem?_cons_zero] at z0 z1
  clear hg
  have HS := Lib.hid hs
  have HR := Lib.hid h
  generalize hv : decide (evOk e 0) = v
  have HV := Lib.hid hv
  clear hv hs
  clear h
  go_enter Tryz.func58, Tryz.ntmps58
  go_wp2_with fail
  refine (dcheck_any w x.n x.s).mono ?_
  rintro r w1 ⟨rfl, hc⟩
  have C := Lib.hid (hc)
  clear hc
  by_cases hk : evOk e 0
  · obtain rfl : v = true := by rw [← HV.out]; exact decide_eq_true hk
    rw [show chkD x.n x.s = 0 by rw [HR.out.n, HR.out.s]; exact hk]
    clear hk HV
    go_wp2
    go_ret
    exact ⟨rfl, C.out⟩
  · obtain rfl : v = false := by rw [← HV.out]; exact decide_eq_false hk
    rw [show chkD x.n x.s = 2 by rw [HR.out.n, HR.out.s]; exact chkD_odd (fun q => hk (chkD_fine q))]
    clear hk HV
    go_wp2
    go_ret
    exact ⟨rfl, C.out⟩

set_option maxRecDepth 100000 in
set_option maxHeartbeats 4000000 in
theorem evapath_any (w : World) (g : Nat) (x : EvT) (e : EvP) (hg : w.heap[g]? = some (.cells #[.int .i64 x.n, .int .i64 x.s, .string x.p, .int .i64 x.k, .int .i64 x.m, .slice x.A x.l x.c, .slice x.B x.bl x.bc] 77 (0, 0))) (h : EvR w x e) (hs : EvSm e) :
    Calls Tryz.prog 59 #[.pointer (some ⟨g, 0, none⟩)] w fun r w' => r = .returned (.bool (decide (evOk e 1))) ∧ Chg [] w w' := by
  have z2 := cell_of hg 2
  simp only [List.getElem?_toArray, List.getElem?_cons_succ, List.getElem?_cons_zero] at z2
  clear hg
  have HS := Lib.hid hs
  have HR := Lib.hid h
  generalize hv : decide (evOk e 1) = v
  have HV := Lib.hid hv
  clear hv hs
  have hp := h.p
  rw [hp] at z2
  clear hp
  clear h
  go_enter Tryz.func59, Tryz.ntmps59
  go_wp2_with fail
  refine (phcheck_any w e.p (by have := HS.out.1; omega)).mono ?_
  rintro r w1 ⟨rfl, hc⟩
  have C := Lib.hid (below_chg8 hc)
  clear hc
  by_cases hk : evOk e 1
  · obtain rfl : v = true := by rw [← HV.out]; exact decide_eq_true hk
    rw [if_pos (show checkL 6 12 e.p = true from hk)]
    clear hk HV
    go_wp2
    go_ret
    exact ⟨rfl, C.out⟩
  · obtain rfl : v = false := by rw [← HV.out]; exact decide_eq_false hk
    rw [if_neg (show ¬ checkL 6 12 e.p = true from hk)]
    clear hk HV
    go_wp2
    go_ret
    exact ⟨rfl, C.out⟩

set_option maxRecDepth 100000 in
set_option maxHeartbeats 4000000 in
theorem evaeff_any (w : World) (g : Nat) (x : EvT) (e : EvP) (hg : w.heap[g]? = some (.cells #[.int .i64 x.n, .int .i64 x.s, .string x.p, .int .i64 x.k, .int .i64 x.m, .slice x.A x.l x.c, .slice x.B x.bl x.bc] 77 (0, 0))) (h : EvR w x e) (hs : EvSm e) :
    Calls Tryz.prog 60 #[.pointer (some ⟨g, 0, none⟩)] w fun r w' => r = .returned (.bool (decide (evOk e 2))) ∧ Chg [] w w' := by
  have z3 := cell_of hg 3
  have z4 := cell_of hg 4
  have z5 := cell_of hg 5
  simp only [List.getElem?_toArray, List.getElem?_cons_succ, List.getElem?_cons_zero] at z3 z4 z5
  clear hg
  have HS := Lib.hid hs
  have HR := Lib.hid h
  generalize hv : decide (evOk e 2) = v
  have HV := Lib.hid hv
  clear hv hs
  clear h
  go_enter Tryz.func60, Tryz.ntmps60
  go_wp2_with fail
  refine (check_any w x.k x.m x.A x.l x.c (by rw [HR.out.l]; exact HS.out.2.1)).mono ?_
  rintro r w1 ⟨rfl, hc⟩
  have C := Lib.hid (hc)
  clear hc
  by_cases hk : evOk e 2
  · obtain rfl : v = true := by rw [← HV.out]; exact decide_eq_true hk
    rw [show chkE x.k x.m x.l = 0 by rw [HR.out.k, HR.out.m, HR.out.l]; exact hk]
    clear hk HV
    go_wp2
    go_ret
    exact ⟨rfl, C.out⟩
  · obtain rfl : v = false := by rw [← HV.out]; exact decide_eq_false hk
    rw [show chkE x.k x.m x.l = 2 by rw [HR.out.k, HR.out.m, HR.out.l]; unfold chkE; rw [if_neg]; exact fun q => hk (chkE_fine q)]
    clear hk HV
    go_wp2
    go_ret
    exact ⟨rfl, C.out⟩

set_option maxRecDepth 100000 in
set_option maxHeartbeats 4000000 in
theorem evapast_any (w : World) (g : Nat) (x : EvT) (e : EvP) (hg : w.heap[g]? = some (.cells #[.int .i64 x.n, .int .i64 x.s, .string x.p, .int .i64 x.k, .int .i64 x.m, .slice x.A x.l x.c, .slice x.B x.bl x.bc] 77 (0, 0))) (h : EvR w x e) (hs : EvSm e) :
    Calls Tryz.prog 61 #[.pointer (some ⟨g, 0, none⟩)] w fun r w' => r = .returned (.bool (decide (evOk e 3))) ∧ Chg [] w w' := by
  have z6 := cell_of hg 6
  simp only [List.getElem?_toArray, List.getElem?_cons_succ, List.getElem?_cons_zero] at z6
  clear hg
  have HS := Lib.hid hs
  have HR := Lib.hid h
  generalize hv : decide (evOk e 3) = v
  have HV := Lib.hid hv
  clear hv hs
  clear h
  go_enter Tryz.func61, Tryz.ntmps61
  go_wp2_with fail
  refine (pacheck_any w x.B x.bl x.bc e.q HR.out.B (by rw [HR.out.bl]; exact HS.out.2.2)).mono ?_
  rintro r w1 ⟨rfl, hc⟩
  have C := Lib.hid (hc)
  clear hc
  by_cases hk : evOk e 3
  · obtain rfl : v = true := by rw [← HV.out]; exact decide_eq_true hk
    rw [show chkS e.q = 0 from hk]
    clear hk HV
    go_wp2
    go_ret
    exact ⟨rfl, C.out⟩
  · obtain rfl : v = false := by rw [← HV.out]; exact decide_eq_false hk
    rw [show chkS e.q = 2 from (chk_two e.q).resolve_left hk]
    clear hk HV
    go_wp2
    go_ret
    exact ⟨rfl, C.out⟩

set_option maxRecDepth 100000 in
set_option maxHeartbeats 4000000 in
theorem evabehind_any (w : World) (g : Nat) (x : EvT) (e : EvP) (hg : w.heap[g]? = some (.cells #[.int .i64 x.n, .int .i64 x.s, .string x.p, .int .i64 x.k, .int .i64 x.m, .slice x.A x.l x.c, .slice x.B x.bl x.bc] 77 (0, 0))) (h : EvR w x e) (hs : EvSm e) :
    Calls Tryz.prog 62 #[.pointer (some ⟨g, 0, none⟩)] w fun r w' => r = .returned (.bool (decide (evOk e 4))) ∧ Chg [] w w' := by
  have z0 := cell_of hg 0
  have z1 := cell_of hg 1
  have z6 := cell_of hg 6
  simp only [List.getElem?_toArray, List.getElem?_cons_succ, List.getElem?_cons_zero] at z0 z1 z6
  clear hg
  have HS := Lib.hid hs
  have HR := Lib.hid h
  generalize hv : decide (evOk e 4) = v
  have HV := Lib.hid hv
  clear hv hs
  have hn := h.n
  have hse := h.s
  have hbl := h.bl
  rw [hn] at z0
  rw [hse] at z1
  rw [hbl] at z6
  clear hn hse hbl h
  generalize hw : (if chkS e.q = 0 then lastL e.n e.q else 0) = lv
  have LV := Lib.hid hw
  have VD : Hid (decide (lv < e.s) = v) := Lib.hid (by rw [← HV.out, ← hw]; rfl)
  clear hw HV
  go_enter Tryz.func62, Tryz.ntmps62
  go_upto_region 1 with fail
  refine wp_region_held_drew (S := fun w' => w'.cell? ⟨g, 0, none⟩ = some (.int .i64 e.n) ∧ w'.cell? ⟨g, 1, none⟩ = some (.int .i64 e.s) ∧ w'.cell? ⟨g, 6, none⟩ = some (.slice x.B e.q.length x.bc)) (by kernel_rfl) ⟨z0, z1, z6⟩ (fun hHeld => ?_)
  have CC : Hid (Chg [] w w.drew) := Lib.hid (Chg.refl [] w).drew
  have DX : Hid (∀ w', Chg [] w w' → w'.cell? ⟨g, 0, none⟩ = some (.int .i64 e.n) ∧ w'.cell? ⟨g, 1, none⟩ = some (.int .i64 e.s) ∧ w'.cell? ⟨g, 6, none⟩ = some (.slice x.B e.q.length x.bc)) := Lib.hid (fun w' hc => ⟨hc.cell z0 (by simp), hc.cell z1 (by simp), hc.cell z6 (by simp)⟩)
  clear z0 z1 z6 hHeld
  generalize w.drew = wc at *
  refine sy 0 3 rfl rfl ?_ (hS := (DX.out _ CC.out))
  try simp only [Act.put, sA, s0, s1]
  refine sy 1 4 rfl rfl ?_ (hS := (DX.out _ CC.out))
  try simp only [Act.put, sA, s0, s1]
  refine sy 2 5 rfl rfl ?_ (hS := (DX.out _ CC.out))
  try simp only [Act.put, sA, s0, s1]
  refine sy 3 6 rfl rfl ?_ (hS := (DX.out _ CC.out))
  try simp only [Act.put, sA, s0, s1]
  refine sy 4 7 rfl rfl ?_ (hS := (DX.out _ CC.out)) (hy := by (intro w hSw; (try dsimp only at hSw); obtain ⟨q0, q1, q2⟩ := hSw; go_simp; try with_reducible rfl))
  try simp only [Act.put, sA, s0, s1]
  refine sy 5 8 rfl rfl ?_ (hS := (DX.out _ CC.out))
  try simp only [Act.put, sA, s0, s1]
  refine sy 6 9 rfl rfl ?_ (hS := (DX.out _ CC.out))
  try simp only [Act.put, sA, s0, s1]
  refine sy 7 10 rfl rfl ?_ (hS := (DX.out _ CC.out))
  try simp only [Act.put, sA, s0, s1]
  refine sy 8 11 rfl rfl ?_ (hS := (DX.out _ CC.out))
  try simp only [Act.put, sA, s0, s1]
  refine sy 9 12 rfl rfl ?_ (hS := (DX.out _ CC.out))
  try simp only [Act.put, sA, s0, s1]
  refine sy 10 13 rfl rfl ?_ (hS := (DX.out _ CC.out)) (hy := by (intro w hSw; (try dsimp only at hSw); obtain ⟨q0, q1, q2⟩ := hSw; go_simp; try with_reducible rfl))
  try simp only [Act.put, sA, s0, s1]
  refine sy 12 15 rfl rfl ?_ (hS := (DX.out _ CC.out))
  try simp only [Act.put, sA, s0, s1]
  refine sy 13 16 rfl rfl ?_ (hS := (DX.out _ CC.out))
  try simp only [Act.put, sA, s0, s1]
  refine sy 14 17 rfl rfl ?_ (hS := (DX.out _ CC.out))
  try simp only [Act.put, sA, s0, s1]
  refine sy 15 18 rfl rfl ?_ (hS := (DX.out _ CC.out))
  try simp only [Act.put, sA, s0, s1]
  refine sy 16 19 rfl rfl ?_ (hS := (DX.out _ CC.out))
  try simp only [Act.put, sA, s0, s1]
  refine sy 17 20 rfl rfl ?_ (hS := (DX.out _ CC.out)) (hy := by (intro w hSw; (try dsimp only at hSw); obtain ⟨q0, q1, q2⟩ := hSw; go_simp; try with_reducible rfl))
  try simp only [Act.put, sA, s0, s1]
  refine wpAnyH_ready (rs := [11]) (by kernel_rfl) (by simp) ?_
  refine AllReadyH.cons rfl (fun K hK => ?_) AllReadyH.nil
  replace hK := Lib.hid hK
  go_simp
  refine (last_any wc x.B x.bc e.q e.n (by rw [← HR.out.bl]; exact HR.out.B.chg CC.out (by simp)) HS.out.2.2).mono ?_
  rintro r wc ⟨rfl, hc⟩
  rw [LV.out]
  replace CC := Lib.hid (CC.out.trans hc)
  clear hc
  refine hK.out _ _ (DX.out _ CC.out) (fun hHeld => ?_)
  clear hK K
  try simp only [Act.put, sA, s0, s1]
  refine sy 18 21 rfl rfl ?_ (hS := (DX.out _ CC.out))
  try simp only [Act.put, sA, s0, s1]
  refine sy 19 2 rfl rfl ?_ (hS := (DX.out _ CC.out))
  try simp only [Act.put, sA, s0, s1]
  refine wpAnyH_done (by kernel_rfl) ?_ _
  clear hHeld
  rw [VD.out]
  go_wp2
  go_ret
  exact ⟨rfl, CC.out⟩

set_option maxRecDepth 100000 in
set_option maxHeartbeats 8000000 in
/-- event.Check, whatever comes. -/
theorem evcheck_any (w : World) (x : EvT) (e : EvP) (h : EvR w x e) (hs : EvSm e) :
    Calls Tryz.prog 14 #[.agg #[.int .i64 x.n, .int .i64 x.s, .string x.p, .int .i64 x.k, .int .i64 x.m, .slice x.A x.l x.c, .slice x.B x.bl x.bc]] w fun r w' => r = .returned (.int .i64 (chkEv e)) ∧ Chg [] w w' := by
  obtain ⟨w3, hw, hc, b0, b1, b2⟩ := news3 w (.cells #[.int .i64 x.n, .int .i64 x.s, .string x.p, .int .i64 x.k, .int .i64 x.m, .slice x.A x.l x.c, .slice x.B x.bl x.bc] 29) (.cells #[.int .i64 x.n, .int .i64 x.s, .string x.p, .int .i64 x.k, .int .i64 x.m, .slice x.A x.l x.c, .slice x.B x.bl x.bc] 77) (.cells #[.func (.func 58) #[.pointer (some ⟨w.heap.size + 1, 0, none⟩)] #[], .func (.func 59) #[.pointer (some ⟨w.heap.size + 1, 0, none⟩)] #[], .func (.func 60) #[.pointer (some ⟨w.heap.size + 1, 0, none⟩)] #[], .func (.func 61) #[.pointer (some ⟨w.heap.size + 1, 0, none⟩)] #[], .func (.func 62) #[.pointer (some ⟨w.heap.size + 1, 0, none⟩)] #[]] 32)
  have W3 := Lib.hid hw
  have HR := Lib.hid (h.chg hc)
  have C := Lib.hid hc
  have HS := Lib.hid hs
  generalize hv : chkEv e = v
  have HV := Lib.hid hv
  clear hw hc h hs hv
  go_enter Tryz.func14, Tryz.ntmps14
  go_upto_region 3 with fail
  rw [← W3.out]
  generalize w.heap.size + 2 = g2 at *
  generalize w.heap.size + 1 = g1 at *
  have B1 := Lib.hid b1
  have B2 := Lib.hid b2
  clear b0 b1 b2 W3
  go_loopw [21] (fun v21 wr => ∃ (j : Nat), j ≤ 5 ∧ v21 = .int .i64 j ∧ Hid (∀ i, i < j → evOk e i) ∧ Hid (Chg [] w3 wr)) (fun v21 _ => 5 - (RowKit.intOf v21).toNat)
  case atStart => exact ⟨0, Nat.zero_le _, rfl, Lib.hid (fun i hi => absurd hi (Nat.not_lt_zero _)), Chg.refl _ _⟩
  case round =>
    obtain ⟨j, hj, rfl, FN, RC⟩ := hrel
    have bb := RC.out.at_ B2.out (by simp)
    by_cases hj0 : j = 0
    · subst hj0
      have z := cell_of bb 0
      simp only [List.getElem?_toArray, List.getElem?_cons_succ, List.getElem?_cons_zero] at z
      clear bb
      go_wp2_with fail
      refine (evadot_any wr g1 x e (RC.out.at_ B1.out (by simp)) (HR.out.chg RC.out) HS.out).mono ?_
      rintro r w4 ⟨rfl, hc⟩
      have C4 := Lib.hid (RC.out.trans hc)
      clear hc z
      by_cases hk : evOk e 0
      · rw [decide_eq_true hk]
        have FM : Hid (∀ i, i < 0 + 1 → evOk e i) := Lib.hid (fun i hi => if q : i = 0 then by rw [q]; exact hk else FN.out i (by omega))
        clear hk
        go_wp2
        go_round
        case rel => exact ⟨0 + 1, by omega, by go_num, FM, C4.out⟩
        case measure => simp [RowKit.intOf]
      · rw [decide_eq_false hk]
        obtain rfl : v = 2 := by rw [← HV.out]; exact chkEv_no 0 (by omega) hk
        clear hk HV
        go_wp2
        go_ret
        exact ⟨rfl, C.out.trans C4.out⟩
    by_cases hj1 : j = 1
    · subst hj1
      have z := cell_of bb 1
      simp only [List.getElem?_toArray, List.getElem?_cons_succ, List.getElem?_cons_zero] at z
      clear bb
      go_wp2_with fail
      refine (evapath_any wr g1 x e (RC.out.at_ B1.out (by simp)) (HR.out.chg RC.out) HS.out).mono ?_
      rintro r w4 ⟨rfl, hc⟩
      have C4 := Lib.hid (RC.out.trans hc)
      clear hc z
      by_cases hk : evOk e 1
      · rw [decide_eq_true hk]
        have FM : Hid (∀ i, i < 1 + 1 → evOk e i) := Lib.hid (fun i hi => if q : i = 1 then by rw [q]; exact hk else FN.out i (by omega))
        clear hk
        go_wp2
        go_round
        case rel => exact ⟨1 + 1, by omega, by go_num, FM, C4.out⟩
        case measure => simp [RowKit.intOf]
      · rw [decide_eq_false hk]
        obtain rfl : v = 2 := by rw [← HV.out]; exact chkEv_no 1 (by omega) hk
        clear hk HV
        go_wp2
        go_ret
        exact ⟨rfl, C.out.trans C4.out⟩
    by_cases hj2 : j = 2
    · subst hj2
      have z := cell_of bb 2
      simp only [List.getElem?_toArray, List.getElem?_cons_succ, List.getElem?_cons_zero] at z
      clear bb
      go_wp2_with fail
      refine (evaeff_any wr g1 x e (RC.out.at_ B1.out (by simp)) (HR.out.chg RC.out) HS.out).mono ?_
      rintro r w4 ⟨rfl, hc⟩
      have C4 := Lib.hid (RC.out.trans hc)
      clear hc z
      by_cases hk : evOk e 2
      · rw [decide_eq_true hk]
        have FM : Hid (∀ i, i < 2 + 1 → evOk e i) := Lib.hid (fun i hi => if q : i = 2 then by rw [q]; exact hk else FN.out i (by omega))
        clear hk
        go_wp2
        go_round
        case rel => exact ⟨2 + 1, by omega, by go_num, FM, C4.out⟩
        case measure => simp [RowKit.intOf]
      · rw [decide_eq_false hk]
        obtain rfl : v = 2 := by rw [← HV.out]; exact chkEv_no 2 (by omega) hk
        clear hk HV
        go_wp2
        go_ret
        exact ⟨rfl, C.out.trans C4.out⟩
    by_cases hj3 : j = 3
    · subst hj3
      have z := cell_of bb 3
      simp only [List.getElem?_toArray, List.getElem?_cons_succ, List.getElem?_cons_zero] at z
      clear bb
      go_wp2_with fail
      refine (evapast_any wr g1 x e (RC.out.at_ B1.out (by simp)) (HR.out.chg RC.out) HS.out).mono ?_
      rintro r w4 ⟨rfl, hc⟩
      have C4 := Lib.hid (RC.out.trans hc)
      clear hc z
      by_cases hk : evOk e 3
      · rw [decide_eq_true hk]
        have FM : Hid (∀ i, i < 3 + 1 → evOk e i) := Lib.hid (fun i hi => if q : i = 3 then by rw [q]; exact hk else FN.out i (by omega))
        clear hk
        go_wp2
        go_round
        case rel => exact ⟨3 + 1, by omega, by go_num, FM, C4.out⟩
        case measure => simp [RowKit.intOf]
      · rw [decide_eq_false hk]
        obtain rfl : v = 2 := by rw [← HV.out]; exact chkEv_no 3 (by omega) hk
        clear hk HV
        go_wp2
        go_ret
        exact ⟨rfl, C.out.trans C4.out⟩
    by_cases hj4 : j = 4
    · subst hj4
      have z := cell_of bb 4
      simp only [List.getElem?_toArray, List.getElem?_cons_succ, List.getElem?_cons_zero] at z
      clear bb
      go_wp2_with fail
      refine (evabehind_any wr g1 x e (RC.out.at_ B1.out (by simp)) (HR.out.chg RC.out) HS.out).mono ?_
      rintro r w4 ⟨rfl, hc⟩
      have C4 := Lib.hid (RC.out.trans hc)
      clear hc z
      by_cases hk : evOk e 4
      · rw [decide_eq_true hk]
        have FM : Hid (∀ i, i < 4 + 1 → evOk e i) := Lib.hid (fun i hi => if q : i = 4 then by rw [q]; exact hk else FN.out i (by omega))
        clear hk
        go_wp2
        go_round
        case rel => exact ⟨4 + 1, by omega, by go_num, FM, C4.out⟩
        case measure => simp [RowKit.intOf]
      · rw [decide_eq_false hk]
        obtain rfl : v = 2 := by rw [← HV.out]; exact chkEv_no 4 (by omega) hk
        clear hk HV
        go_wp2
        go_ret
        exact ⟨rfl, C.out.trans C4.out⟩
    · obtain rfl : j = 5 := by omega
      obtain rfl : v = 0 := by rw [← HV.out]; exact chkEv_yes FN.out
      clear HV bb
      go_wp2
      go_ret
      exact ⟨rfl, C.out.trans RC.out⟩
end
section
open Go.RowKit Go.Lib
set_option linter.unusedSimpArgs false
set_option linter.unusedVariables false
end
section
open Go.RowKit

theorem Chg.both {w w1 w2 : World} {S : List Nat} (h : Chg [] w w1) (k : Chg S w1 w2) (hs : ∀ i ∈ S, w.heap.size ≤ i) : Chg [] w w2 :=
  h.trans' k fun i hi => .inr (hs i hi)

/-- A writer made since w. -/
def Ws (w w' : World) (b : Nat) (xs : List UInt8) (e : Int) : Prop := ∃ g, Wrt w' b g xs e ∧ w.heap.size ≤ b ∧ w.heap.size ≤ g ∧ Chg [] w w'
theorem Ws.chg {w w' : World} {b : Nat} {xs : List UInt8} {e : Int} (h : Ws w w' b xs e) : Chg [] w w' := by obtain ⟨_, _, _, _, h⟩ := h; exact h
theorem Ws.past {w w1 w2 : World} {b : Nat} {xs : List UInt8} {e : Int} (h : Ws w w1 b xs e) (hc : Chg [] w1 w2) : Ws w w2 b xs e := by
  obtain ⟨g, h1, h2, h3, h4⟩ := h
  exact ⟨g, h1.chg hc (by simp) (by simp), h2, h3, h4.trans hc⟩
theorem Fresh.since {w w1 w2 : World} {A : Option Addr} {c : Nat} {ys : List UInt8} (hc : Chg [] w w1) (h : Fresh w1 w2 A c ys) : Fresh w w2 A c ys :=
  ⟨h.1, fun a e => by have := h.2.1 a e; have := hc.size; omega, hc.trans h.2.2⟩
theorem Fresh.past {w w1 w2 : World} {A : Option Addr} {c : Nat} {ys : List UInt8} (h : Fresh w w1 A c ys) (hc : Chg [] w1 w2) : Fresh w w2 A c ys :=
  ⟨h.1.chg hc (by simp), h.2.1, h.2.2.trans hc⟩
theorem Fresh.none_ {w w1 : World} (hc : Chg [] w w1) : Fresh w w1 none 0 [] := ⟨OwnB.none_ _, by simp, hc⟩
/-- A reader made since w. -/
def Rs (w w' : World) (b : Nat) (xs : List UInt8) (p : Nat) (fe fa : Int) : Prop := ∃ g, Rdr w' b g xs p fe fa ∧ w.heap.size ≤ b ∧ w.heap.size ≤ g ∧ Chg [] w w' ∧ p ≤ xs.length ∧ xs.length ≤ 140737488351232
theorem Rs.chg {w w' : World} {b : Nat} {xs : List UInt8} {p : Nat} {fe fa : Int} (h : Rs w w' b xs p fe fa) : Chg [] w w' := by obtain ⟨_, _, _, _, h, _⟩ := h; exact h
theorem Rs.past {w w1 w2 : World} {b : Nat} {xs : List UInt8} {p : Nat} {fe fa : Int} (h : Rs w w1 b xs p fe fa) (hc : Chg [] w1 w2) : Rs w w2 b xs p fe fa := by
  obtain ⟨g, h1, h2, h3, h4, h5⟩ := h
  exact ⟨g, h1.chg hc (by simp) (by simp), h2, h3, h4.trans hc, h5⟩
theorem rs_open (w w1 : World) (B : Option Addr) (m d : Nat) (ys : List UInt8) (hc : Chg [] w w1) (hr : Bs w B m ys) (hm : m ≤ 140737488351232) :
    Calls Tryz.prog 75 #[.slice B m d] w1 fun r w' => ∃ b, r = .returned (.pointer (some ⟨b, 0, none⟩)) ∧ Rs w w' b ys 0 0 0 := by
  have hs := hc.size
  have hl := hr.len
  exact (open_any w1 B m d ys (hr.chg hc (by simp)) hm).mono fun _ _ ⟨b, g, h1, h2, h3, h4, h5⟩ => ⟨b, h1, g, h2, by omega, by omega, hc.trans h3, by omega, by omega⟩
theorem rs_num (w w1 : World) (b : Nat) (xs : List UInt8) (p : Nat) (fe fa low high : Int) (h : Rs w w1 b xs p fe fa) :
    Calls Tryz.prog 76 #[.pointer (some ⟨b, 0, none⟩), .int .i64 low, .int .i64 high] w1 fun r w' => r = .returned (.int .i64 (rNum xs p fe fa low high).1) ∧ Rs w w' b xs (rNum xs p fe fa low high).2.1 (rNum xs p fe fa low high).2.2.1 (rNum xs p fe fa low high).2.2.2 ∧ Chg [b] w1 w' := by
  obtain ⟨g, h1, h2, h3, h4, h5, h6⟩ := h
  exact (rnum_any w1 b g xs p fe fa low high h1 h5 h6).mono fun _ _ ⟨q1, q2, q3⟩ => ⟨q1, ⟨g, q2, h2, h3, h4.both q3 (by simpa using h2), rNum_le h5, h6⟩, q3⟩
theorem rs_raw (w w1 : World) (b : Nat) (xs : List UInt8) (p : Nat) (fe fa most : Int) (h : Rs w w1 b xs p fe fa) :
    Calls Tryz.prog 78 #[.pointer (some ⟨b, 0, none⟩), .int .i64 most] w1 fun r w' => ∃ A c, r = .returned (.slice A (rRaw xs p fe fa most).1.length c) ∧ OwnB w' A c (rRaw xs p fe fa most).1 ∧ (∀ a, A = some a → w1.heap.size ≤ a.block) ∧ Rs w w' b xs (rRaw xs p fe fa most).2.1 (rRaw xs p fe fa most).2.2.1 (rRaw xs p fe fa most).2.2.2 ∧ Chg [b] w1 w' := by
  obtain ⟨g, h1, h2, h3, h4, h5, h6⟩ := h
  exact (rraw_any w1 b g xs p fe fa most h1 h5 h6).mono fun _ _ ⟨A, c, q1, q2, q3, q4, q5⟩ => ⟨A, c, q1, q2, q3, ⟨g, q4, h2, h3, h4.both q5 (by simpa using h2), (rRaw_le h5).2, h6⟩, q5⟩
theorem rs_text (w w1 : World) (b : Nat) (xs : List UInt8) (p : Nat) (fe fa most : Int) (h : Rs w w1 b xs p fe fa) :
    Calls Tryz.prog 77 #[.pointer (some ⟨b, 0, none⟩), .int .i64 most] w1 fun r w' => r = .returned (.string (strOf (rRaw xs p fe fa most).1)) ∧ Rs w w' b xs (rRaw xs p fe fa most).2.1 (rRaw xs p fe fa most).2.2.1 (rRaw xs p fe fa most).2.2.2 ∧ Chg [b] w1 w' := by
  obtain ⟨g, h1, h2, h3, h4, h5, h6⟩ := h
  exact (rtext_any w1 b g xs p fe fa most h1 h5 h6).mono fun _ _ ⟨q1, q4, q5⟩ => ⟨q1, ⟨g, q4, h2, h3, h4.both q5 (by simpa using h2), (rRaw_le h5).2, h6⟩, q5⟩
/-- What the end tells. -/
def endR (xs : List UInt8) (p : Nat) (fe fa : Int) : Int × Int := if fe = 0 ∧ p < xs.length then (4, p) else (fe, fa)
theorem rs_end (w w1 : World) (b : Nat) (xs : List UInt8) (p : Nat) (fe fa : Int) (h : Rs w w1 b xs p fe fa) :
    Calls Tryz.prog 79 #[.pointer (some ⟨b, 0, none⟩)] w1 fun r w' => r = .returned (.agg #[.int .i64 (endR xs p fe fa).1, .int .i64 (endR xs p fe fa).2]) ∧ Chg [] w1 w' := by
  obtain ⟨g, h1, h2, h3, h4, h5, h6⟩ := h
  unfold endR
  by_cases he : fe = 0 ∧ p < xs.length
  · rw [if_pos he]
    obtain ⟨rfl, hp⟩ := he
    exact rend_left w1 b g xs p fa h1 hp h6
  · rw [if_neg he]
    exact rend_done w1 b g xs p fe fa h1 (fun e => by omega) h6
end
section
open Go.RowKit

/-- An effect's bytes. -/
def effB (k m : Int) (ys : List UInt8) : List UInt8 := enc k.toNat ++ enc m.toNat ++ enc ys.length ++ ys
end
section
open Go.RowKit
set_option linter.unusedSimpArgs false

/-- What is read of an effect's bytes: its kind, its mode, its bytes, the end. -/
def eN1 (xs : List UInt8) : Int × Nat × Int × Int := rNum xs 0 0 0 1 3
def eN2 (xs : List UInt8) : Int × Nat × Int × Int := rNum xs (eN1 xs).2.1 (eN1 xs).2.2.1 (eN1 xs).2.2.2 0 511
def eR3 (xs : List UInt8) : List UInt8 × Nat × Int × Int := rRaw xs (eN2 xs).2.1 (eN2 xs).2.2.1 (eN2 xs).2.2.2 1000
def eF (xs : List UInt8) : Int × Int := endR xs (eR3 xs).2.1 (eR3 xs).2.2.1 (eR3 xs).2.2.2
/-- What an effect's bytes read as: the effect; the fault. -/
def readE (xs : List UInt8) : (Int × Int × List UInt8) × Int × Int :=
  if (eF xs).1 ≠ 0 then ((0, 0, []), eF xs) else if Fine (eN1 xs).1 (eN2 xs).1 (eR3 xs).1.length then (((eN1 xs).1, (eN2 xs).1, (eR3 xs).1), (0, 0)) else ((0, 0, []), (2, 0))

/-- What Read leaves. -/
def ReadEPost (w : World) (r : (Int × Int × List UInt8) × Int × Int) (e : Ending) (w' : World) : Prop :=
  ∃ A c, e = .returned (.tuple #[.agg #[.int .i64 r.1.1, .int .i64 r.1.2.1, .slice A r.1.2.2.length c], .agg #[.int .i64 r.2.1, .int .i64 r.2.2]]) ∧ Fresh w w' A c r.1.2.2

theorem rNum_calm {xs : List UInt8} {p : Nat} {fe fa low high : Int} (he : (rNum xs p fe fa low high).2.2.1 = 0) : fe = 0 ∧ (rNum xs p fe fa low high).2.2.2 = fa := by
  unfold rNum at he ⊢
  split at he
  · rename_i h; exact absurd he h
  · rename_i h
    have hz : fe = 0 := by simpa using h
    rw [if_neg h]
    cases hn : numAt xs p low high with
    | error x => obtain ⟨f, q⟩ := x; simp only [hn] at he; have := numAt_err hn; omega
    | ok x => exact ⟨hz, rfl⟩
theorem rRaw_calm {xs : List UInt8} {p : Nat} {fe fa most : Int} (he : (rRaw xs p fe fa most).2.2.1 = 0) : fe = 0 ∧ (rRaw xs p fe fa most).2.2.2 = fa := by
  unfold rRaw at he ⊢
  split at he
  · rename_i h; exact absurd he h
  · rename_i h
    have hz : fe = 0 := by simpa using h
    rw [if_neg h]
    cases hn : numAt xs p 0 4611686018427387903 with
    | error x => obtain ⟨f, q⟩ := x; simp only [hn] at he; have := numAt_err hn; omega
    | ok x =>
      obtain ⟨n, q⟩ := x
      simp only [hn] at he ⊢
      split at he
      · simp at he
      · rename_i h1
        rw [if_neg h1]
        split at he
        · simp at he
        · rename_i h2; rw [if_neg h2]; exact ⟨hz, rfl⟩
theorem endR_calm {xs : List UInt8} {p : Nat} {fe fa : Int} (he : (endR xs p fe fa).1 = 0) : fe = 0 ∧ (endR xs p fe fa).2 = fa ∧ xs.length ≤ p := by
  unfold endR at he ⊢
  split at he
  · simp at he
  · rename_i h
    rw [if_neg h]
    exact ⟨he, rfl, by omega⟩
/-- Without a fault none is told at any place. -/
theorem eF_zero {xs : List UInt8} (h : (eF xs).1 = 0) : (eF xs).2 = 0 := by
  unfold eF at h ⊢
  obtain ⟨h1, h2, _⟩ := endR_calm h
  rw [h2]
  unfold eR3 at h1 ⊢
  obtain ⟨h3, h4⟩ := rRaw_calm h1
  rw [h4]
  unfold eN2 at h3 ⊢
  obtain ⟨h5, h6⟩ := rNum_calm h3
  rw [h6]
  unfold eN1 at h5 ⊢
  obtain ⟨_, h8⟩ := rNum_calm h5
  rw [h8]

theorem bs_apart2 {A : Option Addr} {s0 s1 n : Nat} (h : ∀ a, A = some a → n ≤ a.block) (h0 : s0 < n) (h1 : s1 < n) : ∀ a, A = some a → a.block ∉ [s0, s1] := by
  intro a e
  have := h a e
  simp
  omega

set_option maxHeartbeats 4000000 in
theorem eread_any (w : World) (A : Option Addr) (n c : Nat) (xs : List UInt8) (h : Bs w A n xs) (hn : n ≤ 140737488351232) :
    Calls Tryz.prog 80 #[.slice A n c] w (ReadEPost w (readE xs)) := by
  have hl := h.len
  subst hl
  obtain ⟨w0, hw0⟩ : ∃ w0 : World, w0 = (w.alloc (.cells #[.int .i64 0, .int .i64 0, .slice none 0 0] 26)).alloc (.cells #[.int .i64 0, .int .i64 0] 44) := ⟨_, rfl⟩
  have c0 : Chg [] w w0 := hw0 ▸ ((Chg.refl [] w).alloc _).alloc _
  have b0 : w0.heap[w.heap.size]? = some (.cells #[.int .i64 0, .int .i64 0, .slice none 0 0] 26 (0, 0)) := hw0 ▸ ((Chg.refl [] _).alloc _).at_ (heap_alloc_new w _) (by simp)
  have b1 : w0.heap[w.heap.size + 1]? = some (.cells #[.int .i64 0, .int .i64 0] 44 (0, 0)) := hw0 ▸ heap_alloc_two w _ _
  have g0 := lt_of_heap b0
  have g1 := lt_of_heap b1
  have hp0 : ∀ w' j v, Chg [] w w' → Chg [] w (w'.setCell ⟨w.heap.size, j, none⟩ v) := fun _ _ _ h => h.setCell (.inr (Nat.le_refl _)) _
  have hp1 : ∀ w' j v, Chg [] w w' → Chg [] w (w'.setCell ⟨w.heap.size + 1, j, none⟩ v) := fun _ _ _ h => h.setCell (.inr (Nat.le_succ _)) _
  have HP0 := Lib.hid hp0
  have HP1 := Lib.hid hp1
  have hb0 : ∀ (A : Option Addr) c ys w', OwnB w' A c ys → (∀ a, A = some a → w0.heap.size ≤ a.block) → Chg [] w w' → Fresh w w' A c ys := fun A c ys w' ho h hc => ⟨ho, fun a e => by have := h a e; omega, hc⟩
  have HB0 := Lib.hid hb0
  clear hp0 hp1 hb0
  have hs2 : ¬ w.heap.size = w.heap.size + 1 := by omega
  have H := Lib.hid (h.chg c0 (by simp))
  have W0 := Lib.hid hw0
  have C0 := Lib.hid c0
  have B0 := Lib.hid b0
  have B1 := Lib.hid b1
  clear hw0 c0 b0 b1 h
  have hchk := fun w1 A c => check_any w1 (eN1 xs).1 (eN2 xs).1 A (eR3 xs).1.length c (by have := rRaw_le (xs := xs) (fe := (eN2 xs).2.2.1) (fa := (eN2 xs).2.2.2) (most := 1000) (p := (eN2 xs).2.1) (by unfold eN2; exact rNum_le (by unfold eN1; exact rNum_le (by omega))); unfold eR3; omega)
  have HCk := Lib.hid hchk
  have hr : readE xs = readE xs := rfl
  conv at hr => rhs; unfold readE
  have hz := @eF_zero xs
  have HZ := Lib.hid hz
  have HR := Lib.hid hr
  generalize readE xs = RR at *
  clear hchk hz hr
  go_enter Tryz.func80, Tryz.ntmps80
  go_wp2_with fail
  rw [← W0.out]
  generalize w.heap.size + 1 = s1 at *
  generalize w.heap.size = s0 at *
  refine (rs_open w0 w0 A xs.length c xs (Chg.refl _ _) H.out hn).mono ?_
  rintro e w1 ⟨b, rfl, h1⟩
  have K1 := Lib.hid h1
  clear h1
  go_wp2_with fail
  have r1 := rs_num w0 w1 b xs 0 0 0 1 3 K1.out
  change Calls _ _ _ _ (fun r w' => r = .returned (.int .i64 (eN1 xs).1) ∧ Rs w0 w' b xs (eN1 xs).2.1 (eN1 xs).2.2.1 (eN1 xs).2.2.2 ∧ _) at r1
  refine r1.mono ?_
  rintro e w2 ⟨rfl, h2, -⟩
  have K2 := Lib.hid h2
  clear h2 K1 r1
  go_wp2_with fail
  have r1 := rs_num w0 w2 b xs _ _ _ 0 511 K2.out
  change Calls _ _ _ _ (fun r w' => r = .returned (.int .i64 (eN2 xs).1) ∧ Rs w0 w' b xs (eN2 xs).2.1 (eN2 xs).2.2.1 (eN2 xs).2.2.2 ∧ _) at r1
  refine r1.mono ?_
  rintro e w3 ⟨rfl, h3, -⟩
  have K3 := Lib.hid h3
  clear h3 K2 r1
  go_wp2_with fail
  have r1 := rs_raw w0 w3 b xs _ _ _ 1000 K3.out
  change Calls _ _ _ _ (fun r w' => ∃ A c, r = .returned (.slice A (eR3 xs).1.length c) ∧ OwnB w' A c (eR3 xs).1 ∧ (∀ a, A = some a → w3.heap.size ≤ a.block) ∧ Rs w0 w' b xs (eR3 xs).2.1 (eR3 xs).2.2.1 (eR3 xs).2.2.2 ∧ _) at r1
  refine r1.mono ?_
  rintro e w4 ⟨A4, c4, rfl, o4, n4, h4, -⟩
  have n4' : ∀ a, A4 = some a → w0.heap.size ≤ a.block := fun a e => Nat.le_trans K3.out.chg.size (n4 a e)
  have N4 := Lib.hid n4'
  have O4 := Lib.hid o4
  have K4 := Lib.hid h4
  clear o4 n4 n4' h4 K3 r1
  obtain ⟨w5, hw5⟩ : ∃ w5 : World, w5 = w4.alloc (.cells #[.int .i64 (eN1 xs).1, .int .i64 (eN2 xs).1, .slice A4 (eR3 xs).1.length c4] 26) := ⟨_, rfl⟩
  have c5 : Chg [] w4 w5 := hw5 ▸ (Chg.refl [] w4).alloc _
  have b5 : w5.heap[w4.heap.size]? = some (.cells #[.int .i64 (eN1 xs).1, .int .i64 (eN2 xs).1, .slice A4 (eR3 xs).1.length c4] 26 (0, 0)) := hw5 ▸ heap_alloc_new w4 _
  have K5 := Lib.hid (K4.out.past c5)
  have O5 := Lib.hid (O4.out.chg c5 (by simp))
  have B5 := Lib.hid b5
  have W5 := Lib.hid hw5
  clear hw5 c5 b5 O4
  go_wp2_with fail
  rw [← W5.out]
  have r1 := rs_end w0 w5 b xs _ _ _ K5.out
  change Calls _ _ _ _ (fun r w' => r = .returned (.agg #[.int .i64 (eF xs).1, .int .i64 (eF xs).2]) ∧ _) at r1
  refine r1.mono ?_
  rintro e w6 ⟨rfl, c6⟩
  have B6 := Lib.hid (c6.at_ B5.out (by simp))
  have O6 := Lib.hid (O5.out.chg c6 (by simp))
  have K6 := Lib.hid (K5.out.past c6)
  clear c6 r1 K5 O5 B5 K4 W5
  generalize w4.heap.size = s5 at *
  have t6 := K6.out.chg.size
  have d1 : ¬ w6.heap.size = s0 := by omega
  have d2 : ¬ w6.heap.size = s1 := by omega
  have d3 : ¬ s0 = w6.heap.size := by omega
  have d4 : ¬ s1 = w6.heap.size := by omega
  have d5 : ¬ s1 = s0 := by omega
  clear t6
  obtain ⟨w7, hw7⟩ : ∃ w7 : World, w7 = w6.alloc (.cells #[.int .i64 (eF xs).1, .int .i64 (eF xs).2] 44) := ⟨_, rfl⟩
  have c7 : Chg [] w6 w7 := hw7 ▸ (Chg.refl [] w6).alloc _
  have b7 : w7.heap[w6.heap.size]? = some (.cells #[.int .i64 (eF xs).1, .int .i64 (eF xs).2] 44 (0, 0)) := hw7 ▸ heap_alloc_new w6 _
  have K7 := Lib.hid (K6.out.past c7)
  have O7 := Lib.hid (O6.out.chg c7 (by simp))
  have b5 := c7.at_ B6.out (by simp)
  have W7 := Lib.hid hw7
  have q0 := K7.out.chg.at_ B0.out (by simp)
  have q1 := K7.out.chg.at_ B1.out (by simp)
  have z0 := cell_of q0 0
  have z1 := cell_of q0 1
  have z2 := cell_of q0 2
  have z3 := cell_of q1 0
  have z4 := cell_of q1 1
  have f0 := free_of q0 0
  have f1 := free_of q0 1
  have f2 := free_of q0 2
  have f3 := free_of q1 0
  have f4 := free_of q1 1
  simp only [List.getElem?_toArray, List.getElem?_cons_succ, List.getElem?_cons_zero] at z0 z1 z2 z3 z4
  clear q0 q1
  have y0 := cell_of b7 0
  have y1 := cell_of b7 1
  have x0 := cell_of b5 0
  have x1 := cell_of b5 1
  have x2 := cell_of b5 2
  simp only [List.getElem?_toArray, List.getElem?_cons_succ, List.getElem?_cons_zero] at y0 y1 x0 x1 x2
  have B5 := Lib.hid b5
  clear hw7 c7 b7 b5 K6 O6 B6
  have C7 := Lib.hid (C0.out.trans K7.out.chg)
  by_cases he : (eF xs).1 = 0
  · have hr := HR.out
    rw [if_neg (by simpa using he)] at hr
    have he2 := HZ.out he
    have he' : ((eF xs).1 != 0) = false := by simpa using he
    by_cases hf : Fine (eN1 xs).1 (eN2 xs).1 (eR3 xs).1.length
    · rw [if_pos hf] at hr
      have HR2 := Lib.hid hr
      have hc := HCk.out w7 A4 c4
      rw [chkE_fine hf] at hc
      have HC := Lib.hid hc
      clear he he2 hf hc hr HR HCk
      go_upto_region 4 with fail
      rw [← W7.out]
      generalize w6.heap.size = s6 at *
      go_wp2_with fail
      refine HC.out.mono ?_
      rintro e w8 ⟨rfl, c8⟩
      have z0 := c8.cell z0 (by simp)
      have z1 := c8.cell z1 (by simp)
      have z2 := c8.cell z2 (by simp)
      have z3 := c8.cell z3 (by simp)
      have z4 := c8.cell z4 (by simp)
      have x0 := c8.cell x0 (by simp)
      have x1 := c8.cell x1 (by simp)
      have x2 := c8.cell x2 (by simp)
      have q0 := (K7.out.chg.trans c8).at_ B0.out (by simp)
      have q1 := (K7.out.chg.trans c8).at_ B1.out (by simp)
      have f0 := free_of q0 0
      have f1 := free_of q0 1
      have f2 := free_of q0 2
      have f3 := free_of q1 0
      have f4 := free_of q1 1
      have O8 := Lib.hid (O7.out.chg c8 (by simp))
      have C8 := Lib.hid (C7.out.trans c8)
      clear c8 q0 q1 y0 y1
      go_wp2
      refine bodyPost_ret (v := .tuple #[.agg #[.int .i64 (eN1 xs).1, .int .i64 (eN2 xs).1, .slice A4 (eR3 xs).1.length c4], .agg #[.int .i64 0, .int .i64 0]]) (by simp [results, Tryz.results80, go_sem, z0, z1, z2, z3, z4, hs2, d5]) rfl ?_
      rw [HR2.out]
      exact ⟨A4, c4, rfl, HB0.out _ _ _ _ (O8.out.chg (S := [s0, s1]) (((((((Chg.refl [s0, s1] w8).setCell (.inl (by simp)) _).setCell (.inl (by simp)) _).setCell (.inl (by simp)) _).setCell (.inl (by simp)) _).setCell (.inl (by simp)) _)) (bs_apart2 N4.out g0 g1)) N4.out (HP1.out _ _ _ (HP1.out _ _ _ (HP0.out _ _ _ (HP0.out _ _ _ (HP0.out _ _ _ C8.out)))))⟩
    · rw [if_neg hf] at hr
      have HR2 := Lib.hid hr
      have hc := HCk.out w7 A4 c4
      rw [chkE_odd hf] at hc
      have HC := Lib.hid hc
      clear he he2 hf hc hr HR HCk
      go_upto_region 4 with fail
      rw [← W7.out]
      generalize w6.heap.size = s6 at *
      go_wp2_with fail
      refine HC.out.mono ?_
      rintro e w8 ⟨rfl, c8⟩
      have z0 := c8.cell z0 (by simp)
      have z1 := c8.cell z1 (by simp)
      have z2 := c8.cell z2 (by simp)
      have z3 := c8.cell z3 (by simp)
      have z4 := c8.cell z4 (by simp)
      have q0 := (K7.out.chg.trans c8).at_ B0.out (by simp)
      have q1 := (K7.out.chg.trans c8).at_ B1.out (by simp)
      have f0 := free_of q0 0
      have f1 := free_of q0 1
      have f2 := free_of q0 2
      have f3 := free_of q1 0
      have f4 := free_of q1 1
      have C8 := Lib.hid (C7.out.trans c8)
      clear c8 q0 q1 y0 y1 x0 x1 x2
      go_wp2
      refine bodyPost_ret (v := .tuple #[.agg #[.int .i64 0, .int .i64 0, .slice none 0 0], .agg #[.int .i64 2, .int .i64 0]]) (by simp [results, Tryz.results80, go_sem, z0, z1, z2, z3, z4, hs2, d5]) rfl ?_
      rw [HR2.out]
      exact ⟨none, 0, rfl, Fresh.none_ (HP1.out _ _ _ (HP1.out _ _ _ (HP0.out _ _ _ (HP0.out _ _ _ (HP0.out _ _ _ C8.out)))))⟩
  · have hr := HR.out
    rw [if_pos he] at hr
    have HR2 := Lib.hid hr
    have he' : ((eF xs).1 != 0) = true := by simpa using he
    clear he hr HR
    go_upto_region 4 with fail
    rw [← W7.out]
    generalize w6.heap.size = s6 at *
    go_wp2
    go_region
    all_goals
      go_wp2
      refine bodyPost_ret (v := .tuple #[.agg #[.int .i64 0, .int .i64 0, .slice none 0 0], .agg #[.int .i64 (eF xs).1, .int .i64 (eF xs).2]]) (by simp [results, Tryz.results80, go_sem, z0, z1, z2, z3, z4, hs2, d5]) rfl ?_
      rw [HR2.out]
      exact ⟨none, 0, rfl, Fresh.none_ (HP1.out _ _ _ (HP1.out _ _ _ (HP0.out _ _ _ (HP0.out _ _ _ (HP0.out _ _ _ C7.out))))).drew⟩
end
section
open Go.RowKit Go.Lib
set_option linter.unusedSimpArgs false
set_option linter.unusedVariables false



set_option maxHeartbeats 8000000 in
set_option maxRecDepth 100000 in
theorem qacheck_any (w : World) (A : Option Addr) (n c : Nat) (xs : List (Int × Int × Int)) (h : RdK spanTy w A n xs) (hn : n ≤ 140737488351232) : Calls Tryz.prog 66 #[.slice A n c] w fun e w' => e = .returned (.int .i64 (chkS xs)) ∧ Chg [] w w' := by
  have go : ∀ v, chkS xs = v → Calls Tryz.prog 66 #[.slice A n c] w (fun e w' => e = .returned (.int .i64 v) ∧ Chg [] w w') → Calls Tryz.prog 66 #[.slice A n c] w fun e w' => e = .returned (.int .i64 (chkS xs)) ∧ Chg [] w w' := fun v hv h => hv ▸ h
  have hl := h.len
  subst hl
  by_cases hbig : 4000 < xs.length
  · refine go 2 (if_neg (by omega)) ?_
    clear go h
    go_enter Tryz.func66, Tryz.ntmps66
    go_wp2
    go_ret
    exact ⟨rfl, Chg.refl _ _⟩
  · skip
    have HX := Lib.hid h
    have hV : chkS xs = if okFrom none xs = true then 0 else 2 := by unfold chkS; by_cases ho : okFrom none xs = true <;> simp [ho] <;> omega
    have HV := Lib.hid hV
    clear h go
    generalize chkS xs = V at *
    clear hV
    go_enter Tryz.func66, Tryz.ntmps66
    go_wp2
    go_loopw [3] (fun i wr => ∃ (k : Nat), k ≤ xs.length ∧ i = .int .i64 k ∧ Hid (Chg [] w wr ∧ okFrom none xs = okFrom (prevS xs k) (xs.drop k) ∧ ∀ y, prevS xs k = some y → FineS y.1 y.2.1 y.2.2)) (fun i _ => xs.length - (RowKit.intOf i).toNat)
    case atStart => exact ⟨0, Nat.zero_le _, rfl, Chg.refl _ _, rfl, by unfold prevS; simp⟩
    case round =>
      obtain ⟨k, hk, rfl, HI⟩ := hrel
      generalize wr = w1 at *
      clear wr
      by_cases hlt : k < xs.length
      · skip
        obtain ⟨g, o, eA, _⟩ := HX.out.line (by omega)
        subst eA
        have ex := List.getElem?_eq_getElem hlt
        generalize xs[k] = x at *
        have EX := Lib.hid ex
        have hok := okFrom_next xs k x ex
        have HOK := Lib.hid (HI.out.2.1.trans hok)
        clear ex hok
        have i0 : (0 : Int) ≤ (k : Int) := by omega
        have i1 : (k : Int) < (xs.length : Int) := by omega
        have hcc := spanCells (HX.out.chg HI.out.1 (by simp)) EX.out
        obtain ⟨p0, p1, p2⟩ := hcc
        have CW := Lib.hid HI.out.1
        obtain ⟨w2, hw2, cw2, b_B0⟩ := news1 w1 (.cells #[.int .i64 x.1, .int .i64 x.2.1, .int .i64 x.2.2] 62)
        have Ww2 := Lib.hid hw2
        have l_B0 := lt_of_heap b_B0
        replace CW := Lib.hid (CW.out.trans cw2)
        have B0 := Lib.hid (b_B0)
        clear hw2 cw2 b_B0
        go_upto_region 7 with fail
        rw [← Ww2.out]
        generalize w1.heap.size = b at *
        clear Ww2
        clear p0 p1 p2
        have z_B0_0 := cell_of B0.out 0
        have z_B0_1 := cell_of B0.out 1
        have z_B0_2 := cell_of B0.out 2
        simp only [List.getElem?_toArray, List.getElem?_cons_succ, List.getElem?_cons_zero] at z_B0_0 z_B0_1 z_B0_2
        by_cases f1 : x.1 < 1
        · have hd : decide (FineS x.1 x.2.1 x.2.2) = false := decide_eq_false (by unfold FineS; omega)
          have hv2 : ¬ okFrom none xs = true := by rw [HOK.out, hd]; simp
          have HV2 : V = 2 := HV.out.trans (if_neg hv2)
          subst HV2
          clear hv2 hd
          go_wp2
          go_ret
          exact ⟨rfl, CW.out⟩
        by_cases f2 : 200 < x.1
        · have hd : decide (FineS x.1 x.2.1 x.2.2) = false := decide_eq_false (by unfold FineS; omega)
          have hv2 : ¬ okFrom none xs = true := by rw [HOK.out, hd]; simp
          have HV2 : V = 2 := HV.out.trans (if_neg hv2)
          subst HV2
          clear hv2 hd
          go_wp2
          go_ret
          exact ⟨rfl, CW.out⟩
        by_cases f3 : x.2.1 < 1
        · have hd : decide (FineS x.1 x.2.1 x.2.2) = false := decide_eq_false (by unfold FineS; omega)
          have hv2 : ¬ okFrom none xs = true := by rw [HOK.out, hd]; simp
          have HV2 : V = 2 := HV.out.trans (if_neg hv2)
          subst HV2
          clear hv2 hd
          go_wp2
          go_ret
          exact ⟨rfl, CW.out⟩
        by_cases f4 : x.2.2 < x.2.1
        · have hd : decide (FineS x.1 x.2.1 x.2.2) = false := decide_eq_false (by unfold FineS; omega)
          have hv2 : ¬ okFrom none xs = true := by rw [HOK.out, hd]; simp
          have HV2 : V = 2 := HV.out.trans (if_neg hv2)
          subst HV2
          clear hv2 hd
          go_wp2
          go_ret
          exact ⟨rfl, CW.out⟩
        by_cases f5 : 2147483647 < x.2.2
        · have hd : decide (FineS x.1 x.2.1 x.2.2) = false := decide_eq_false (by unfold FineS; omega)
          have hv2 : ¬ okFrom none xs = true := by rw [HOK.out, hd]; simp
          have HV2 : V = 2 := HV.out.trans (if_neg hv2)
          subst HV2
          clear hv2 hd
          go_wp2
          go_ret
          exact ⟨rfl, CW.out⟩
        have hf : FineS x.1 x.2.1 x.2.2 := by unfold FineS; omega
        have HFN := Lib.hid hf
        have hd := decide_eq_true hf
        rw [hd] at HOK
        clear hd hf
        go_upto_region 9 with fail
        by_cases h0 : k = 0
        · subst h0
          go_quiet (fail)
          have e1 : prevS xs (0 + 1) = some x := by unfold prevS; rw [if_neg (by omega)]; exact EX.out
          have CE := Lib.hid (CW.out.drewN nq)
          go_wp2
          go_round
          case rel =>
            refine ⟨0 + 1, by omega, by go_num, CE.out, ?_, ?_⟩
            · rw [HOK.out]; simp [prevS]
            · rw [e1]; rintro y ⟨⟩; exact HFN.out
          case measure => simp [RowKit.intOf]; omega
        · have hk1 : k - 1 < xs.length := by omega
          have ey := List.getElem?_eq_getElem hk1
          generalize xs[k - 1] = y at *
          have ep : prevS xs k = some y := by unfold prevS; rw [if_neg h0]; exact ey
          have EY := Lib.hid ey
          have hfy := HI.out.2.2 y ep
          unfold FineS at hfy
          rw [ep] at HOK
          dsimp only at HOK
          clear ey ep
          have hcc := spanCells (HX.out.chg CW.out (by simp)) EY.out
          obtain ⟨p0, p1, p2⟩ := hcc
          have hk2 : ((k : Int) - 1) = ((k - 1 : Nat) : Int) := by omega
          have hk4 : ((k - 1 : Nat) : Int) < (xs.length : Int) := by omega
          have hk5 : (0 : Int) ≤ ((k - 1 : Nat) : Int) := by omega
          have hk6 : IntKind.i64.wrap ((k - 1 : Nat) : Int) = ((k - 1 : Nat) : Int) := IntWalk.i64_in _ (by omega)
          have hk7 : decide (0 < k) = true := by simp; omega
          have hk8 : IntKind.i64.wrap (y.2.2 + 1) = y.2.2 + 1 := IntWalk.i64_in _ (by omega)
          clear hfy
          by_cases g1 : x.1 < y.1
          · skip
            have hA : decide (ApartS y.1 y.2.2 x.1 x.2.1) = false := decide_eq_false (by unfold ApartS; omega)
            rw [hA] at HOK
            clear hA
            go_quiet (fail)
            have hv2 : ¬ okFrom none xs = true := by rw [HOK.out]; simp
            have HV2 : V = 2 := HV.out.trans (if_neg hv2)
            subst HV2
            clear hv2
            have CE := Lib.hid (CW.out.drewN nq)
            go_wp2
            go_ret
            exact ⟨rfl, CE.out⟩
          by_cases g2 : x.1 = y.1
          rotate_left
          · skip
            have hA : decide (ApartS y.1 y.2.2 x.1 x.2.1) = true := decide_eq_true (by unfold ApartS; omega)
            rw [hA] at HOK
            clear hA
            go_quiet (fail)
            have e1 : prevS xs (k + 1) = some x := by unfold prevS; rw [if_neg (by omega)]; exact EX.out
            have CE := Lib.hid (CW.out.drewN nq)
            go_wp2
            go_round
            case rel =>
              refine ⟨k + 1, by omega, by go_num, CE.out, ?_, ?_⟩
              · rw [HOK.out]; simp [e1]
              · rw [e1]; rintro y ⟨⟩; exact HFN.out
            case measure => simp [RowKit.intOf]; omega
          by_cases g3 : x.2.1 ≤ y.2.2 + 1
          · skip
            have hA : decide (ApartS y.1 y.2.2 x.1 x.2.1) = false := decide_eq_false (by unfold ApartS; omega)
            rw [hA] at HOK
            clear hA
            go_quiet (fail)
            have hv2 : ¬ okFrom none xs = true := by rw [HOK.out]; simp
            have HV2 : V = 2 := HV.out.trans (if_neg hv2)
            subst HV2
            clear hv2
            have CE := Lib.hid (CW.out.drewN nq)
            go_wp2
            go_ret
            exact ⟨rfl, CE.out⟩
          · skip
            have hA : decide (ApartS y.1 y.2.2 x.1 x.2.1) = true := decide_eq_true (by unfold ApartS; omega)
            rw [hA] at HOK
            clear hA
            go_quiet (fail)
            have e1 : prevS xs (k + 1) = some x := by unfold prevS; rw [if_neg (by omega)]; exact EX.out
            have CE := Lib.hid (CW.out.drewN nq)
            go_wp2
            go_round
            case rel =>
              refine ⟨k + 1, by omega, by go_num, CE.out, ?_, ?_⟩
              · rw [HOK.out]; simp [e1]
              · rw [e1]; rintro y ⟨⟩; exact HFN.out
            case measure => simp [RowKit.intOf]; omega
      · obtain rfl : k = xs.length := by omega
        have hv := HI.out.2.1
        rw [List.drop_length] at hv
        have hv2 : okFrom none xs = true := by rw [hv]; cases prevS xs xs.length <;> rfl
        have HV2 : V = 0 := HV.out.trans (if_pos hv2)
        subst HV2
        clear hv hv2
        go_wp2
        go_ret
        exact ⟨rfl, HI.out.1⟩
end
section
open Go.RowKit Go.Lib
set_option linter.unusedSimpArgs false
set_option linter.unusedVariables false

/-- A span's bytes. -/
def spanB (x : Int × Int × Int) : List UInt8 := UInt8.ofNat x.1.toNat :: (be 4 x.2.1.toNat ++ be 4 x.2.2.toNat)
theorem spanB_len (x : Int × Int × Int) : (spanB x).length = 9 := by simp [spanB, be_len]
/-- A past's bytes. -/
def spansB (xs : List (Int × Int × Int)) : List UInt8 := UInt8.ofNat (xs.length / 256) :: UInt8.ofNat xs.length :: xs.flatMap spanB
theorem Bs.row {w : World} {g : Nat} {ys : List UInt8} (h : w.heap[g]? = some (.cells (ys.map bv).toArray 5 (0, 0))) (hl : ys.length ≤ maxLen) : Bs w (some ⟨g, 0, none⟩) ys.length ys :=
  (OwnB.of (full := ys) (c := ys.length) h (Nat.le_refl _) hl rfl (List.take_length)).reads
end
section
open Go.RowKit Go.Lib
set_option linter.unusedSimpArgs false
set_option linter.unusedVariables false

theorem okFrom_fine : ∀ (p : Option (Int × Int × Int)) (xs : List (Int × Int × Int)), okFrom p xs = true → ∀ x ∈ xs, FineS x.1 x.2.1 x.2.2
  | _, [], _, x, hx => by simp at hx
  | none, y :: l, h, x, hx => by
    simp only [okFrom, Bool.and_eq_true, decide_eq_true_eq] at h
    rcases List.mem_cons.1 hx with rfl | hx
    · exact h.1
    · exact okFrom_fine _ l h.2 x hx
  | some _, y :: l, h, x, hx => by
    simp only [okFrom, Bool.and_eq_true, decide_eq_true_eq] at h
    rcases List.mem_cons.1 hx with rfl | hx
    · exact h.1.1
    · exact okFrom_fine _ l h.2 x hx
theorem chkS_zero {xs : List (Int × Int × Int)} (h : chkS xs = 0) : xs.length ≤ 4000 ∧ ∀ x ∈ xs, FineS x.1 x.2.1 x.2.2 := by
  unfold chkS at h
  split at h
  · rename_i hc; exact ⟨hc.1, okFrom_fine _ _ hc.2⟩
  · cases h
theorem chkS_odd {xs : List (Int × Int × Int)} (h : chkS xs ≠ 0) : chkS xs = 2 := by
  unfold chkS at h ⊢
  split at h
  · exact absurd rfl h
  · rename_i hc; rw [if_neg hc]
def bytesO (xs : List (Int × Int × Int)) : List UInt8 := if chkS xs = 0 then spansB xs else []
theorem flat_len (l : List (Int × Int × Int)) : (l.flatMap spanB).length = 9 * l.length := by
  induction l with
  | nil => rfl
  | cons x l ih => rw [List.flatMap_cons, List.length_append, spanB_len, ih, List.length_cons]; omega
end
end Go.Proofs.YtgbidlhgmeglmaaGreatDoor
