/- Two sets of dots gone through at a time: plain functions. No function of the program is named here. Spans in any order made a past, as the document does it: plain functions. No function of the program is named here. The pasts that may be, as lists of spans in order. No memory here. What is joined, and left: plain functions. No function of the program is named here. Rows of texts. Intents. The document's writer (tributaryref01): form, put, Num, Raw, Text, Out. The document's writer, call by call. The document's writer: Raw, Text, Out. The document's reader: Open, fail, Left, End, and Num. The document's number, read. The document's number, read: where digits follow, or none. The document's reader: Raw and Text. The document's writer and reader, made since a world w. -/
import Derived.Test.YtcnbgdplkobenaaGreatDoorZic
import Derived.Test.YtcnbgdplkobenaaGreatDoorZib
import Derived.Test.YtcnbgdplkobenaaGreatDoorZia
import Derived.Deep.RegionHeld3
import Derived.Deep.AppendLies
namespace Go.Proofs.YtcnbgdplkobenaaGreatDoor
section
set_option linter.unusedSimpArgs false
set_option linter.unusedVariables false

/-- A place in a past: what is left of it; behind all spans there is the node 201. -/
def hdP (l : List Sp) : Sp := l.headD (201, 0, 0)
def passP (l : List Sp) (tt : Int) : List Sp :=
  match l with
  | [] => []
  | x :: r => if tt < x.2.2 then (x.1, tt + 1, x.2.2) :: r else r
def untilP (s nx : Sp) : Sp := if s.1 = nx.1 then (s.1, s.2.1, min s.2.2 (nx.2.1 - 1)) else s
def inP (x y : Sp) : Bool := decide (x.1 < y.1 ∨ x.1 = y.1 ∧ x.2.1 ≤ y.2.1)
def pieceP (x y : Sp) : Sp := if inP x y = true ∧ inP y x = true then (x.1, x.2.1, min x.2.2 y.2.2) else if inP x y = true then untilP x y else untilP y x
/-- A past of nodes 1 to 200. -/
def WfC (l : List Sp) : Prop := Norm l ∧ ∀ x ∈ l, 1 ≤ x.1 ∧ x.1 ≤ 200 ∧ 1 ≤ x.2.1 ∧ x.2.2 ≤ 2147483647
/-- All of the second lies behind the end of the first. -/
def Bh (p : Sp) (l : List Sp) : Prop := ∀ z ∈ l, p.1 < z.1 ∨ p.1 = z.1 ∧ p.2.2 < z.2.1
def dotsN (l : List Sp) : Nat := (l.map (fun x => (x.2.2 - x.2.1 + 1).toNat)).sum
/-- How many steps there may be yet. -/
def potP (la lb : List Sp) : Nat := 2 * (la.length + lb.length) + (if (hdP la).1 = (hdP lb).1 ∧ (hdP la).2.1 = (hdP lb).2.1 then 0 else 1)
theorem pot_le (la lb : List Sp) : potP la lb ≤ 2 * (la.length + lb.length) + 1 := by unfold potP; split <;> omega
theorem dots_cons (x : Sp) (l : List Sp) : dotsN (x :: l) = (x.2.2 - x.2.1 + 1).toNat + dotsN l := by simp [dotsN]
theorem bh_out {p : Sp} {l : List Sp} (h : Bh p l) {n s : Int} (hi : InS p n s) : ¬ Mem l n s := by
  rintro ⟨z, hz, hj⟩
  have := h z hz
  unfold InS at *
  omega
theorem bh_head {p y : Sp} {l : List Sp} (h : WfC (y :: l)) (hy : p.1 < y.1 ∨ p.1 = y.1 ∧ p.2.2 < y.2.1) : Bh p (y :: l) := by
  intro z hz
  rcases List.mem_cons.1 hz with rfl | q
  · exact hy
  · have a := h.1.head.2 z q
    have o := h.1.head.1
    unfold Ap SpOk at *
    omega
theorem pass_ok {x : Sp} {r : List Sp} (h : WfC (x :: r)) {tt : Int} (h1 : x.2.1 ≤ tt) (h2 : tt ≤ x.2.2) :
    WfC (passP (x :: r) tt) ∧ (∀ n s, Mem (passP (x :: r) tt) n s ↔ Mem (x :: r) n s ∧ ¬ InS (x.1, x.2.1, tt) n s) ∧ Bh (x.1, x.2.1, tt) (passP (x :: r) tt) ∧ (∀ n s, InS (x.1, x.2.1, tt) n s → Mem (x :: r) n s) ∧ dotsN (passP (x :: r) tt) < dotsN (x :: r) := by
  have hx := h.1.head
  have hb := h.2 x (by simp)
  have br : Bh x r := fun z hz => by
    have := hx.2 z hz
    unfold Ap at this
    omega
  have up : ∀ n s, InS (x.1, x.2.1, tt) n s → InS x n s := fun n s q => by unfold InS at *; simp only at q; omega
  refine ⟨?_, fun n s => ?_, ?_, fun n s q => mem_cons.2 (.inl (up n s q)), ?_⟩
  · unfold passP
    simp only
    split
    · rename_i hlt
      refine ⟨norm_cons (by unfold SpOk; simp only; omega) h.1.tail (fun z hz => by have := hx.2 z hz; unfold Ap at *; simp only; omega), fun z hz => ?_⟩
      rcases List.mem_cons.1 hz with rfl | q
      · simp only; omega
      · exact h.2 z (by simp [q])
    · exact ⟨h.1.tail, fun z hz => h.2 z (by simp [hz])⟩
  · unfold passP
    simp only
    split
    · rename_i hlt
      rw [mem_cons, mem_cons]
      constructor
      · rintro (q | q)
        · exact ⟨.inl (by unfold InS at *; simp only at q; omega), by unfold InS at *; simp only at q ⊢; omega⟩
        · exact ⟨.inr q, fun z => bh_out br (up n s z) q⟩
      · rintro ⟨q | q, z⟩
        · exact .inl (by unfold InS at *; simp only at z ⊢; omega)
        · exact .inr q
    · rename_i hlt
      have e : tt = x.2.2 := by omega
      subst e
      rw [mem_cons]
      constructor
      · intro q
        exact ⟨.inr q, fun z => bh_out br z q⟩
      · rintro ⟨q | q, z⟩
        · exact absurd q z
        · exact q
  · unfold passP
    simp only
    intro z hz
    split at hz
    · rcases List.mem_cons.1 hz with rfl | q
      · exact .inr ⟨rfl, by simp only; omega⟩
      · have := br z q; simp only; omega
    · have := br z hz; simp only; omega
  · unfold passP
    simp only
    have o := hx.1
    unfold SpOk at o
    split
    · rw [dots_cons, dots_cons]; simp only; omega
    · rw [dots_cons]; omega
theorem pass_len (x : Sp) (r : List Sp) (tt : Int) : (passP (x :: r) tt).length = if tt < x.2.2 then r.length + 1 else r.length := by unfold passP; simp only; split <;> simp
theorem hd_nil : hdP [] = (201, 0, 0) := rfl
theorem hd_cons (x : Sp) (l : List Sp) : hdP (x :: l) = x := rfl
/-- What a step leaves of a past that has, or has not, the piece. -/
def leftP (l : List Sp) (i : Bool) (tt : Int) : List Sp := if i = true then passP l tt else l
structure StepOk (la lb : List Sp) (p : Sp) (ia ib : Bool) (la' lb' : List Sp) : Prop where
  ok : SpOk p ∧ 1 ≤ p.1 ∧ p.1 ≤ 200 ∧ 1 ≤ p.2.1 ∧ p.2.2 ≤ 2147483647
  wa : WfC la'
  wb : WfC lb'
  ina : ∀ n s, InS p n s → (Mem la n s ↔ ia = true)
  inb : ∀ n s, InS p n s → (Mem lb n s ↔ ib = true)
  ma : ∀ n s, Mem la' n s ↔ Mem la n s ∧ ¬ InS p n s
  mb : ∀ n s, Mem lb' n s ↔ Mem lb n s ∧ ¬ InS p n s
  ba : Bh p la'
  bb : Bh p lb'
  dec : dotsN la' + dotsN lb' < dotsN la + dotsN lb
  pot : potP la' lb' < potP la lb
  sub : (∃ z ∈ la, z.1 = p.1 ∧ z.2.1 ≤ p.2.1 ∧ p.2.2 ≤ z.2.2) ∨ ∃ z ∈ lb, z.1 = p.1 ∧ z.2.1 ≤ p.2.1 ∧ p.2.2 ≤ z.2.2
theorem pot_comm (la lb : List Sp) : potP la lb = potP lb la := by
  unfold potP
  have e : ((hdP la).1 = (hdP lb).1 ∧ (hdP la).2.1 = (hdP lb).2.1) = ((hdP lb).1 = (hdP la).1 ∧ (hdP lb).2.1 = (hdP la).2.1) := propext ⟨fun h => ⟨h.1.symm, h.2.symm⟩, fun h => ⟨h.1.symm, h.2.symm⟩⟩
  simp only [e, Nat.add_comm la.length]
theorem StepOk.swap {la lb : List Sp} {p : Sp} {ia ib : Bool} {la' lb' : List Sp} (h : StepOk la lb p ia ib la' lb') : StepOk lb la p ib ia lb' la' :=
  ⟨h.ok, h.wb, h.wa, h.inb, h.ina, h.mb, h.ma, h.bb, h.ba, by have := h.dec; omega, by rw [pot_comm, pot_comm lb]; exact h.pot, h.sub.symm⟩
theorem step_both {x y : Sp} {xs ys : List Sp} (ha : WfC (x :: xs)) (hb : WfC (y :: ys)) (e1 : x.1 = y.1) (e2 : x.2.1 = y.2.1) :
    StepOk (x :: xs) (y :: ys) (x.1, x.2.1, min x.2.2 y.2.2) true true (passP (x :: xs) (min x.2.2 y.2.2)) (passP (y :: ys) (min x.2.2 y.2.2)) := by
  have ox := ha.1.head.1
  have oy := hb.1.head.1
  have bx := ha.2 x (by simp)
  unfold SpOk at ox oy
  obtain ⟨a1, a2, a3, a4, a5⟩ := pass_ok ha (tt := min x.2.2 y.2.2) (by omega) (by omega)
  obtain ⟨b1, b2, b3, b4, b5⟩ := pass_ok hb (tt := min x.2.2 y.2.2) (by omega) (by omega)
  have PB : potP (passP (x :: xs) (min x.2.2 y.2.2)) (passP (y :: ys) (min x.2.2 y.2.2)) < potP (x :: xs) (y :: ys) := by
    have e0 : potP (x :: xs) (y :: ys) = 2 * (xs.length + 1 + (ys.length + 1)) := by unfold potP; rw [hd_cons, hd_cons, if_pos ⟨e1, e2⟩]; rfl
    refine Nat.lt_of_le_of_lt (pot_le _ _) ?_
    rw [e0, pass_len, pass_len]
    split <;> split <;> omega
  rw [← e1, ← e2] at b2 b3 b4
  exact ⟨⟨by unfold SpOk; simp only; omega, bx.1, bx.2.1, bx.2.2.1, by simp only; omega⟩, a1, b1, fun n s q => ⟨fun _ => rfl, fun _ => a4 n s q⟩, fun n s q => ⟨fun _ => rfl, fun _ => b4 n s q⟩, a2, b2, a3, b3, by omega, PB, .inl ⟨x, by simp, rfl, Int.le_refl _, by simp only; omega⟩⟩
theorem step_one {x : Sp} {xs lb : List Sp} (ha : WfC (x :: xs)) (hb : WfC lb) (tt : Int) (h1 : x.2.1 ≤ tt) (h2 : tt ≤ x.2.2) (hl : Bh (x.1, x.2.1, tt) lb) (hu : ¬ (x.1 = (hdP lb).1 ∧ x.2.1 = (hdP lb).2.1)) (hal : tt = x.2.2 ∨ x.1 = (hdP lb).1 ∧ tt + 1 = (hdP lb).2.1) : StepOk (x :: xs) lb (x.1, x.2.1, tt) true false (passP (x :: xs) tt) lb := by
  have bx := ha.2 x (by simp)
  obtain ⟨a1, a2, a3, a4, a5⟩ := pass_ok ha h1 h2
  have PB : potP (passP (x :: xs) tt) lb < potP (x :: xs) lb := by
    have e0 : potP (x :: xs) lb = 2 * (xs.length + 1 + lb.length) + 1 := by unfold potP; rw [hd_cons, if_neg hu]; rfl
    rw [e0]
    by_cases hlt : tt < x.2.2
    · have hp : passP (x :: xs) tt = (x.1, tt + 1, x.2.2) :: xs := by unfold passP; simp only; rw [if_pos hlt]
      rw [hp]
      unfold potP
      rw [hd_cons, if_pos (by rcases hal with h | h; exact absurd h (by omega); exact h)]
      simp only [List.length_cons]
      omega
    · refine Nat.lt_of_le_of_lt (pot_le _ _) ?_
      rw [pass_len, if_neg hlt]
      omega
  exact ⟨⟨by unfold SpOk; exact h1, bx.1, bx.2.1, bx.2.2.1, by simp only; omega⟩, a1, hb, fun n s q => ⟨fun _ => rfl, fun _ => a4 n s q⟩, fun n s q => ⟨fun z => absurd z (bh_out hl q), fun z => absurd z (by simp)⟩, a2, fun n s => ⟨fun z => ⟨z, fun q => bh_out hl q z⟩, fun z => z.1⟩, a3, hl, by omega, PB, .inl ⟨x, by simp, rfl, Int.le_refl _, h2⟩⟩
theorem piece_one {x y : Sp} (h : inP x y = true) (h' : inP y x = false) : pieceP x y = (x.1, x.2.1, if x.1 = y.1 then min x.2.2 (y.2.1 - 1) else x.2.2) := by
  unfold pieceP
  rw [if_neg (by simp [h']), if_pos h]
  unfold untilP
  split <;> rfl
theorem piece_other {x y : Sp} (h : inP x y = false) (h' : inP y x = true) : pieceP x y = pieceP y x := by
  unfold pieceP
  rw [if_neg (by simp [h]), if_neg (by simp [h]), if_neg (by simp [h]), if_pos h']
theorem step_first {x : Sp} {xs lb : List Sp} (ha : WfC (x :: xs)) (hb : WfC lb) (h : inP x (hdP lb) = true) (h' : inP (hdP lb) x = false) :
    StepOk (x :: xs) lb (pieceP x (hdP lb)) true false (passP (x :: xs) (pieceP x (hdP lb)).2.2) lb := by
  rw [piece_one h h']
  have ox := ha.1.head.1
  have bx := ha.2 x (by simp)
  unfold SpOk at ox
  simp only [inP, decide_eq_true_eq, decide_eq_false_iff_not] at h h'
  cases lb with
  | nil =>
    rw [hd_nil] at *
    rw [if_neg (by simp only; omega)]
    exact step_one ha hb _ ox (Int.le_refl _) (fun z hz => absurd hz (by simp)) (by rw [hd_nil]; simp only; omega) (.inl rfl)
  | cons y ys =>
    rw [hd_cons] at *
    refine step_one ha hb _ ?_ ?_ (bh_head hb ?_) (by rw [hd_cons]; omega) (by rw [hd_cons]; split <;> omega)
    · split <;> omega
    · split <;> omega
    · simp only
      split <;> omega
/-- A step: the next dots that are all in the same ones of both pasts. -/
theorem step_ok {la lb : List Sp} (ha : WfC la) (hb : WfC lb) (hne : la ≠ [] ∨ lb ≠ []) :
    StepOk la lb (pieceP (hdP la) (hdP lb)) (inP (hdP la) (hdP lb)) (inP (hdP lb) (hdP la)) (leftP la (inP (hdP la) (hdP lb)) (pieceP (hdP la) (hdP lb)).2.2) (leftP lb (inP (hdP lb) (hdP la)) (pieceP (hdP la) (hdP lb)).2.2) := by
  have tri : inP (hdP la) (hdP lb) = true ∨ inP (hdP lb) (hdP la) = true := by
    simp only [inP, decide_eq_true_eq]; omega
  cases h1 : inP (hdP la) (hdP lb) with
  | true =>
    cases h2 : inP (hdP lb) (hdP la) with
    | true =>
      have q1 := h1
      have q2 := h2
      simp only [inP, decide_eq_true_eq] at q1 q2
      cases la with
      | nil =>
        cases lb with
        | nil => exact absurd rfl (hne.elim id id)
        | cons y ys => have := hb.2 y (by simp); rw [hd_nil, hd_cons] at q1 q2; simp only at q1 q2; omega
      | cons x xs =>
        cases lb with
        | nil => have := ha.2 x (by simp); rw [hd_nil, hd_cons] at q1 q2; simp only at q1 q2; omega
        | cons y ys =>
          rw [hd_cons, hd_cons] at *
          have e : pieceP x y = (x.1, x.2.1, min x.2.2 y.2.2) := by unfold pieceP; rw [if_pos ⟨h1, h2⟩]
          rw [e]
          exact step_both ha hb (by omega) (by omega)
    | false =>
      cases la with
      | nil =>
        have q1 := h1
        have q2 := h2
        simp only [inP, decide_eq_true_eq, decide_eq_false_iff_not] at q1 q2
        cases lb with
        | nil => exact absurd rfl (hne.elim id id)
        | cons y ys => have := hb.2 y (by simp); rw [hd_nil, hd_cons] at q1 q2; simp only at q1 q2; omega
      | cons x xs => exact step_first ha hb h1 h2
  | false =>
    have h2 := tri.resolve_left (by simp [h1])
    rw [h2]
    cases lb with
    | nil =>
      have q1 := h1
      have q2 := h2
      simp only [inP, decide_eq_true_eq, decide_eq_false_iff_not] at q1 q2
      cases la with
      | nil => exact absurd rfl (hne.elim id id)
      | cons y ys => have := ha.2 y (by simp); rw [hd_nil, hd_cons] at q1 q2; simp only at q1 q2; omega
    | cons y ys =>
      rw [hd_cons] at *
      rw [piece_other h1 h2]
      exact (step_first hb ha h2 h1).swap
def memb (l : List Sp) (n s : Int) : Bool := decide (Mem l n s)
/-- Where a sweep stands: what was kept, what is left. -/
structure SwInv (k : Bool → Bool → Bool) (a b la lb pre : List Sp) : Prop where
  wa : WfC la
  wb : WfC lb
  ok : ∀ z ∈ pre, SpOk z
  up : pre.Pairwise Le
  ba : ∀ p ∈ pre, Bh p la
  bb : ∀ p ∈ pre, Bh p lb
  cnt : pre.length + potP la lb ≤ potP a b
  m : ∀ n s, k (memb a n s) (memb b n s) = true ↔ Mem pre n s ∨ k (memb la n s) (memb lb n s) = true
theorem bh_mono {p : Sp} {l l' : List Sp} (hp : SpOk p) (h : Bh p l) (hn : WfC l') (hs : ∀ n s, Mem l' n s → Mem l n s) : Bh p l' := by
  intro z hz
  have oz := hn.1.1 z hz
  obtain ⟨y, hy, hi⟩ := hs z.1 z.2.1 ⟨z, hz, rfl, Int.le_refl _, oz⟩
  have := h y hy
  unfold InS SpOk at *
  omega
theorem SwInv.step {k : Bool → Bool → Bool} (hk : k false false = false) {a b la lb pre : List Sp} (h : SwInv k a b la lb pre) {p : Sp} {ia ib : Bool} {la' lb' : List Sp} (q : StepOk la lb p ia ib la' lb') : SwInv k a b la' lb' (if k ia ib = true then pre ++ [p] else pre) := by
  have core : ∀ n s, (k (memb la n s) (memb lb n s) = true) ↔ (k ia ib = true ∧ InS p n s) ∨ k (memb la' n s) (memb lb' n s) = true := by
    intro n s
    have ma := q.ma n s
    have mb := q.mb n s
    by_cases hi : InS p n s
    · have ea : memb la n s = ia := by
        have := q.ina n s hi
        unfold memb
        cases ia <;> simp_all
      have eb : memb lb n s = ib := by
        have := q.inb n s hi
        unfold memb
        cases ib <;> simp_all
      have ea' : memb la' n s = false := by unfold memb; simp [ma, hi]
      have eb' : memb lb' n s = false := by unfold memb; simp [mb, hi]
      rw [ea, eb, ea', eb', hk]
      exact ⟨fun z => .inl ⟨z, hi⟩, fun z => z.elim (fun y => y.1) (fun y => absurd y (by simp))⟩
    · have ea' : memb la' n s = memb la n s := by unfold memb; simp [ma, hi]
      have eb' : memb lb' n s = memb lb n s := by unfold memb; simp [mb, hi]
      rw [ea', eb']
      exact ⟨.inr, fun z => z.elim (fun y => absurd y.2 hi) id⟩
  have subA : ∀ n s, Mem la' n s → Mem la n s := fun n s z => ((q.ma n s).1 z).1
  have subB : ∀ n s, Mem lb' n s → Mem lb n s := fun n s z => ((q.mb n s).1 z).1
  have oldA : ∀ x ∈ pre, Bh x la' := fun x hx => bh_mono (h.ok x hx) (h.ba x hx) q.wa subA
  have oldB : ∀ x ∈ pre, Bh x lb' := fun x hx => bh_mono (h.ok x hx) (h.bb x hx) q.wb subB
  by_cases hkk : k ia ib = true
  · rw [if_pos hkk]
    have le : ∀ x ∈ pre, Le x p := fun x hx => by
      have ox := h.ok x hx
      rcases q.sub with ⟨z, hz, e1, e2, e3⟩ | ⟨z, hz, e1, e2, e3⟩
      · have := h.ba x hx z hz; unfold Le SpOk at *; omega
      · have := h.bb x hx z hz; unfold Le SpOk at *; omega
    refine ⟨q.wa, q.wb, fun z hz => ?_, List.pairwise_append.2 ⟨h.up, by simp, fun x hx y hy => by simp at hy; subst hy; exact le x hx⟩, fun x hx => ?_, fun x hx => ?_, by have := q.pot; have := h.cnt; simp; omega, fun n s => ?_⟩
    · rcases List.mem_append.1 hz with w | w
      · exact h.ok z w
      · simp at w; subst w; exact q.ok.1
    · rcases List.mem_append.1 hx with w | w
      · exact oldA x w
      · simp at w; subst w; exact q.ba
    · rcases List.mem_append.1 hx with w | w
      · exact oldB x w
      · simp at w; subst w; exact q.bb
    · rw [h.m n s, core n s, mem_append, mem_one]
      constructor
      · rintro (z | z | z); exact .inl (.inl z); exact .inl (.inr z.2); exact .inr z
      · rintro ((z | z) | z); exact .inl z; exact .inr (.inl ⟨hkk, z⟩); exact .inr (.inr z)
  · rw [if_neg hkk]
    refine ⟨q.wa, q.wb, h.ok, h.up, oldA, oldB, by have := q.pot; have := h.cnt; omega, fun n s => ?_⟩
    rw [h.m n s, core n s]
    constructor
    · rintro (z | z | z); exact .inl z; exact absurd z.1 hkk; exact .inr z
    · rintro (z | z); exact .inl z; exact .inr (.inr z)
/-- Behind all: just the dots of which the func says yes, in order. -/
theorem SwInv.done {k : Bool → Bool → Bool} (hk : k false false = false) {a b pre : List Sp} (h : SwInv k a b [] [] pre) : Norm (pre.foldl pushP []) ∧ ∀ n s, Mem (pre.foldl pushP []) n s ↔ k (memb a n s) (memb b n s) = true := by
  obtain ⟨c, d⟩ := fold_norm (zs := pre) norm_nil h.ok h.up (by simp)
  refine ⟨c, fun n s => ?_⟩
  rw [d n s, h.m n s]
  have e : memb [] n s = false := by unfold memb; simp [mem_nil]
  rw [e, hk]
  exact ⟨fun q => .inl (q.resolve_left mem_nil), fun q => .inr (q.resolve_right (by simp))⟩
end
section
set_option linter.unusedSimpArgs false
set_option linter.unusedVariables false

/-- One comes ahead of the other one. -/
def Lt3 (x y : Sp) : Prop := x.1 < y.1 ∨ x.1 = y.1 ∧ (x.2.1 < y.2.1 ∨ x.2.1 = y.2.1 ∧ x.2.2 < y.2.2)
instance (x y : Sp) : Decidable (Lt3 x y) := by unfold Lt3; exact inferInstance
def cntS (x : Sp) : List Sp → Nat
  | [] => 0
  | y :: l => if Lt3 y x then cntS x l + 1 else 0
def insS (x : Sp) (l : List Sp) : List Sp := l.take (cntS x l) ++ x :: l.drop (cntS x l)
def riseS (l : List Sp) : List Sp := l.foldl (fun r x => insS x r) []
def tidyS (l : List Sp) : List Sp := (riseS l).foldl pushP []
theorem cntS_le (x : Sp) : ∀ l, cntS x l ≤ l.length
  | [] => Nat.le_refl _
  | y :: l => by unfold cntS; split <;> have := cntS_le x l <;> simp <;> omega
theorem cntS_lt (x : Sp) : ∀ (l : List Sp) (i : Nat) (y : Sp), l[i]? = some y → i < cntS x l → Lt3 y x
  | [], i, y, h, _ => by simp at h
  | z :: l, 0, y, h, hi => by
    simp at h; subst h
    unfold cntS at hi
    split at hi
    · assumption
    · omega
  | z :: l, i + 1, y, h, hi => by
    unfold cntS at hi
    split at hi
    · exact cntS_lt x l i y (by simpa using h) (by omega)
    · omega
theorem cntS_at (x : Sp) : ∀ (l : List Sp) (y : Sp), l[cntS x l]? = some y → ¬ Lt3 y x
  | [], y, h => by simp at h
  | z :: l, y, h => by
    unfold cntS at h
    split at h
    · exact cntS_at x l y (by simpa using h)
    · simp at h; subst h; assumption
theorem insS_len (x : Sp) (l : List Sp) : (insS x l).length = l.length + 1 := by
  unfold insS
  have := cntS_le x l
  simp; omega
theorem insS_mem (x y : Sp) (l : List Sp) : y ∈ insS x l ↔ y = x ∨ y ∈ l := by
  unfold insS
  rw [List.mem_append, List.mem_cons]
  conv => rhs; rw [← List.take_append_drop (cntS x l) l, List.mem_append]
  constructor
  · rintro (h | h | h)
    · exact .inr (.inl h)
    · exact .inl h
    · exact .inr (.inr h)
  · rintro (h | h | h)
    · exact .inr (.inl h)
    · exact .inl h
    · exact .inr (.inr h)
def Ge3 (x y : Sp) : Prop := ¬ Lt3 y x
theorem Ge3.le {x y : Sp} (h : Ge3 x y) : Le x y := by unfold Ge3 Lt3 Le at *; omega
theorem insS_up (x : Sp) (l : List Sp) (h : l.Pairwise Ge3) : (insS x l).Pairwise Ge3 := by
  unfold insS
  have hs : (l.take (cntS x l) ++ l.drop (cntS x l)).Pairwise Ge3 := by rw [List.take_append_drop]; exact h
  rw [List.pairwise_append] at hs ⊢
  obtain ⟨a, b, c⟩ := hs
  have hd : ∀ y ∈ l.drop (cntS x l), Ge3 x y := by
    cases hdr : l.drop (cntS x l) with
    | nil => simp
    | cons z r =>
      have hz : l[cntS x l]? = some z := by
        have : (l.drop (cntS x l))[0]? = some z := by rw [hdr]; rfl
        simpa using this
      have hg : Ge3 x z := cntS_at x l z hz
      rw [hdr] at b
      intro y hy
      rcases List.mem_cons.1 hy with rfl | q
      · exact hg
      · have := (List.pairwise_cons.1 b).1 y q
        unfold Ge3 Lt3 at *
        omega
  have ht : ∀ y ∈ l.take (cntS x l), Lt3 y x := fun y hy => by
    obtain ⟨i, hi, rfl⟩ := List.getElem_of_mem hy
    rw [List.length_take] at hi
    rw [List.getElem_take]
    exact cntS_lt x l i _ (List.getElem?_eq_getElem (by omega)) (by omega)
  refine ⟨a, List.pairwise_cons.2 ⟨hd, b⟩, fun y hy z hz => ?_⟩
  rcases List.mem_cons.1 hz with rfl | q
  · have := ht y hy
    unfold Ge3 Lt3 at *
    omega
  · exact c y hy z q
theorem fold_ins : ∀ (l r : List Sp), r.Pairwise Ge3 → (l.foldl (fun r x => insS x r) r).Pairwise Ge3 ∧ (∀ y, y ∈ l.foldl (fun r x => insS x r) r ↔ y ∈ l ∨ y ∈ r) ∧ (l.foldl (fun r x => insS x r) r).length = l.length + r.length
  | [], r, h => ⟨h, by simp, by simp⟩
  | x :: l, r, h => by
    obtain ⟨a, b, c⟩ := fold_ins l (insS x r) (insS_up x r h)
    rw [List.foldl_cons]
    refine ⟨a, fun y => ?_, by rw [c, insS_len]; simp; omega⟩
    rw [b y, insS_mem, List.mem_cons]
    constructor
    · rintro (q | q | q); exact .inl (.inr q); exact .inl (.inl q); exact .inr q
    · rintro ((q | q) | q); exact .inr (.inl q); exact .inl q; exact .inr (.inr q)
theorem rise_props (l : List Sp) : (riseS l).Pairwise Ge3 ∧ (∀ y, y ∈ riseS l ↔ y ∈ l) ∧ (riseS l).length = l.length := by
  obtain ⟨a, b, c⟩ := fold_ins l [] List.Pairwise.nil
  exact ⟨a, fun y => by rw [show riseS l = l.foldl (fun r x => insS x r) [] from rfl, b y]; simp, by rw [show riseS l = l.foldl (fun r x => insS x r) [] from rfl, c]; simp⟩
theorem pair_le {l : List Sp} (h : l.Pairwise Ge3) : l.Pairwise Le := h.imp (fun q => q.le)
theorem mem_same {l m : List Sp} (h : ∀ y, y ∈ l ↔ y ∈ m) (n s : Int) : Mem l n s ↔ Mem m n s := ⟨fun ⟨x, hx, hi⟩ => ⟨x, (h x).1 hx, hi⟩, fun ⟨x, hx, hi⟩ => ⟨x, (h x).2 hx, hi⟩⟩
theorem tidy_norm {l : List Sp} (h : ∀ x ∈ l, SpOk x) : Norm (tidyS l) ∧ ∀ n s, Mem (tidyS l) n s ↔ Mem l n s := by
  obtain ⟨a, b, c⟩ := rise_props l
  obtain ⟨d, e⟩ := fold_norm (zs := riseS l) norm_nil (fun z hz => h z ((b z).1 hz)) (pair_le a) (by simp)
  exact ⟨d, fun n s => by rw [show tidyS l = (riseS l).foldl pushP [] from rfl, e n s, mem_same b n s]; exact ⟨fun q => q.resolve_left mem_nil, .inr⟩⟩
/-- All numbers are small. -/
def B3 (x : Sp) : Prop := 1 ≤ x.1 ∧ x.1 ≤ 200 ∧ 1 ≤ x.2.1 ∧ x.2.1 ≤ x.2.2 ∧ x.2.2 ≤ 2147483647
end
section
set_option linter.unusedSimpArgs false
set_option linter.unusedVariables false

theorem ok_some : ∀ (l : List Sp) (y : Sp), y.2.1 ≤ y.2.2 → okFrom (some y) l = true → (∀ x ∈ l, FineS x.1 x.2.1 x.2.2 ∧ Ap y x) ∧ l.Pairwise Ap
  | [], y, _, _ => ⟨by simp, List.Pairwise.nil⟩
  | x :: l, y, hy, h => by
    simp only [okFrom, Bool.and_eq_true, decide_eq_true_eq] at h
    obtain ⟨⟨h1, h2⟩, h3⟩ := h
    have ox : x.2.1 ≤ x.2.2 := h1.2.2.2.1
    obtain ⟨a, b⟩ := ok_some l x ox h3
    have hyx : Ap y x := h2
    refine ⟨fun z hz => ?_, List.pairwise_cons.2 ⟨fun z hz => (a z hz).2, b⟩⟩
    rcases List.mem_cons.1 hz with rfl | q
    · exact ⟨h1, hyx⟩
    · exact ⟨(a z q).1, hyx.trans (a z q).2 ox⟩
theorem some_ok : ∀ (l : List Sp) (y : Sp), (∀ x ∈ l, FineS x.1 x.2.1 x.2.2 ∧ Ap y x) → l.Pairwise Ap → okFrom (some y) l = true
  | [], y, _, _ => rfl
  | x :: l, y, h, hp => by
    have hp' := List.pairwise_cons.1 hp
    simp only [okFrom, Bool.and_eq_true, decide_eq_true_eq]
    exact ⟨⟨(h x (by simp)).1, (h x (by simp)).2⟩, some_ok l x (fun z hz => ⟨(h z (by simp [hz])).1, hp'.1 z hz⟩) hp'.2⟩
theorem wf_of_chk {xs : List Sp} (h : chkS xs = 0) : WfC xs ∧ xs.length ≤ 4000 := by
  unfold chkS at h
  split at h
  · rename_i hc
    refine ⟨?_, hc.1⟩
    cases xs with
    | nil => exact ⟨norm_nil, by simp⟩
    | cons x l =>
      have h2 := hc.2
      simp only [okFrom, Bool.and_eq_true, decide_eq_true_eq] at h2
      obtain ⟨h1, h3⟩ := h2
      have ox : x.2.1 ≤ x.2.2 := h1.2.2.2.1
      obtain ⟨a, b⟩ := ok_some l x ox h3
      have fine : ∀ z ∈ x :: l, FineS z.1 z.2.1 z.2.2 := fun z hz => by
        rcases List.mem_cons.1 hz with rfl | q
        · exact h1
        · exact (a z q).1
      exact ⟨⟨fun z hz => (fine z hz).2.2.2.1, List.pairwise_cons.2 ⟨fun z hz => (a z hz).2, b⟩⟩, fun z hz => by have := fine z hz; unfold FineS at this; omega⟩
  · exact absurd h (by decide)
theorem chk_of_wf {xs : List Sp} (h : WfC xs) (hl : xs.length ≤ 4000) : chkS xs = 0 := by
  unfold chkS
  rw [if_pos]
  refine ⟨hl, ?_⟩
  have fine : ∀ z ∈ xs, FineS z.1 z.2.1 z.2.2 := fun z hz => by
    have := h.2 z hz
    have o := h.1.1 z hz
    unfold FineS SpOk at *
    omega
  cases xs with
  | nil => rfl
  | cons x l =>
    have hp := List.pairwise_cons.1 h.1.2
    simp only [okFrom, Bool.and_eq_true, decide_eq_true_eq]
    exact ⟨fine x (by simp), some_ok l x (fun z hz => ⟨fine z (by simp [hz]), hp.1 z hz⟩) hp.2⟩
theorem chk_two (xs : List Sp) : chkS xs = 0 ∨ chkS xs = 2 := by unfold chkS; split <;> simp
end
section
set_option linter.unusedSimpArgs false
set_option linter.unusedVariables false
/-- The errno, and the past that is told. -/
def boundP (l : List Sp) : Int × List Sp := if 4000 < l.length then (8, []) else (0, l)
def joinE (a b : List Sp) : Int × List Sp := if chkS a = 0 ∧ chkS b = 0 then boundP (tidyS (a ++ b)) else (2, [])
end
section
open Go.RowKit
def textTy : RowTy (List UInt8) where
  enc := fun x => [.string (strOf x)]
  k := 1
  T := 9
  TS := 137
  z := []
  zv := .string ⟨#[]⟩
  bytes := 16
  klen := fun _ => rfl
  one := by intro x v hv; simp at hv; rcases hv with rfl <;> rfl
  zc := rfl
  kpos := by decide
  bpos := by decide
  under := by kernel_rfl
  info := by kernel_rfl
theorem textCells {w : World} {g o n j : Nat} {xs : List (List UInt8)} (h : RdK textTy w (some ⟨g, o, none⟩) n xs) {x : List UInt8} (hx : xs[j]? = some x) : w.cell? ⟨g, o + j, none⟩ = some (.string (strOf x)) := by
  have := h.at_ j 0 x _ hx rfl
  rwa [show textTy.k = 1 from rfl, Nat.mul_one, Nat.add_zero] at this
theorem strOf_of (s : ByteArray) : strOf s.data.toList = s := by
  unfold strOf
  rw [Array.toArray_toList]
theorem strOf_ext (l : List UInt8) (a b : Nat) : (strOf l).extract a b = strOf ((l.drop a).take (b - a)) := by
  apply ByteArray.ext
  apply Array.toList_inj.1
  rw [show ((strOf l).extract a b).data = (strOf l).data.extract a b from ByteArray.data_extract]
  simp [strOf, List.extract_eq_take_drop]
end
section
open Go.RowKit Go.Lib
set_option linter.unusedSimpArgs false
set_option linter.unusedVariables false


/-- An intent as it lies in memory: path, effect (kind, mode, bytes), past, stamp. -/
structure InT where
  p : ByteArray
  k : Int
  m : Int
  A : Option Addr
  l : Nat
  c : Nat
  B : Option Addr
  bl : Nat
  bc : Nat
  t : Int
/-- What an intent is. -/
structure InP where
  p : List UInt8
  k : Int
  m : Int
  b : List UInt8
  q : List Sp
  t : Int
/-- It reads so. -/
structure InR (w : World) (x : InT) (e : InP) : Prop where
  p : x.p = strOf e.p
  k : x.k = e.k
  m : x.m = e.m
  l : x.l = e.b.length
  bl : x.bl = e.q.length
  A : Bs w x.A x.l e.b
  B : RdK spanTy w x.B x.bl e.q
  t : x.t = e.t
theorem InR.chg {w w' : World} {x : InT} {e : InP} (h : InR w x e) (hc : Chg [] w w') : InR w' x e := ⟨h.p, h.k, h.m, h.l, h.bl, h.A.chg hc (by simp), h.B.chg hc (by simp), h.t⟩
theorem InR.chgS {S : List Nat} {w w' : World} {x : InT} {e : InP} (h : InR w x e) (hc : Chg S w w') (hA : ∀ a, x.A = some a → a.block ∉ S) (hB : ∀ a, x.B = some a → a.block ∉ S) : InR w' x e := ⟨h.p, h.k, h.m, h.l, h.bl, h.A.chg hc hA, h.B.chg hc hB, h.t⟩
def InSm (e : InP) : Prop := e.p.length ≤ 10000000 ∧ e.b.length ≤ 140737488351232 ∧ e.q.length ≤ 140737488351232
def InOk (e : InP) : Prop := checkL 6 12 e.p = true ∧ chkE e.k e.m e.b.length = 0 ∧ chkS e.q = 0 ∧ 0 ≤ e.t ∧ e.t ≤ 1099511627776
instance (e : InP) : Decidable (InOk e) := by unfold InOk; exact inferInstance
def chkI (e : InP) : Int := if InOk e then 0 else 2
theorem chkI_two (e : InP) : chkI e = 0 ∨ chkI e = 2 := by unfold chkI; split <;> simp
theorem chkI_ok {e : InP} (h : chkI e = 0) : InOk e := by
  unfold chkI at h
  split at h
  · assumption
  · exact absurd h (by decide)
theorem chkI_no {e : InP} (h : ¬ InOk e) : chkI e = 2 := if_neg h
theorem chkE_two (k m : Int) (n : Nat) : chkE k m n = 0 ∨ chkE k m n = 2 := by unfold chkE; split <;> simp
theorem below_chgI {w w' : World} (h : Below w.heap.size w w') : Chg [] w w' := Chg.ofBelow h (by omega) []
/-- What a writer has behind each part of an intent. -/
def iW0 (e : InP) : List UInt8 × Int := wRaw [] 0 e.p
def iW1 (e : InP) : List UInt8 × Int := wRaw (iW0 e).1 (iW0 e).2 (effO e.k e.m e.b)
def iW2 (e : InP) : List UInt8 × Int := wRaw (iW1 e).1 (iW1 e).2 (bytesO e.q)
def iW3 (e : InP) : List UInt8 × Int := wNum (iW2 e).1 (iW2 e).2 e.t
theorem iW_len (e : InP) : (iW0 e).1.length ≤ 1048576 ∧ (iW1 e).1.length ≤ 1048576 ∧ (iW2 e).1.length ≤ 1048576 ∧ (iW3 e).1.length ≤ 1048576 := by
  have h0 : (iW0 e).1.length ≤ 1048576 := wRaw_len (by simp)
  have h1 : (iW1 e).1.length ≤ 1048576 := wRaw_len h0
  have h2 : (iW2 e).1.length ≤ 1048576 := wRaw_len h1
  exact ⟨h0, h1, h2, wNum_len h2⟩
def bytesI (e : InP) : List UInt8 × Int := if chkI e = 0 then (outs (iW3 e).1 (iW3 e).2, (iW3 e).2) else ([], 2)
theorem effO_lenI (k m : Int) (ys : List UInt8) : (effO k m ys).length ≤ 2000 := by
  unfold effO
  split
  · rename_i h
    have := fine_len h
    unfold effB
    rw [List.length_append, List.length_append, List.length_append, enc_len, enc_len, enc_len]
    have n1 := nb_le k.toNat (by omega)
    have n2 := nb_le m.toNat (by omega)
    have n3 := nb_le ys.length (by omega)
    omega
  · simp
theorem bytesO_lenI (xs : List (Int × Int × Int)) : (bytesO xs).length ≤ 40000 := by
  unfold bytesO
  split
  · rename_i h
    have := (chkS_zero h).1
    show (UInt8.ofNat (xs.length / 256) :: UInt8.ofNat xs.length :: xs.flatMap spanB).length ≤ 40000
    rw [List.length_cons, List.length_cons, flat_len]
    omega
  · simp
end
section
open Go.RowKit

theorem nb_char (n k : Nat) (hk : k ≤ 8) (h0 : n < 256 ^ k) (h1 : k = 0 ∨ 256 ^ (k - 1) ≤ n) : k = nb n := by
  have e : ∀ j, 256 ^ j = 2 ^ (8 * j) := fun j => by rw [Nat.pow_mul]
  have h2 := Lib.bitLen_le n (8 * k) (by omega) (by rw [← e]; exact h0)
  unfold nb
  rcases h1 with rfl | h1
  · omega
  · by_cases hk0 : k = 0
    · subst hk0; omega
    · rw [e] at h1
      have hn : n < 2 ^ 64 := by
        have : 256 ^ k ≤ 256 ^ 8 := Nat.pow_le_pow_right (by omega) hk
        have e8 : 256 ^ 8 = 2 ^ 64 := by decide
        omega
      have h3 := Lib.bitLen_shift (8 * (k - 1)) n h1 hn
      have h4 : Lib.bitLen (n / 2 ^ (8 * (k - 1))) ≠ 0 := by
        intro h
        have hp : 1 ≤ n / 2 ^ (8 * (k - 1)) := (Nat.le_div_iff_mul_le (Nat.two_pow_pos _)).2 (by omega)
        have := Lib.bitLen_shift 0 (n / 2 ^ (8 * (k - 1))) (by simpa using hp) (by have := Nat.div_le_self n (2 ^ (8 * (k - 1))); omega)
        have h5 : Lib.bitLen (n / 2 ^ (8 * (k - 1))) = 1 + Lib.bitLen (n / 2 ^ (8 * (k - 1)) / 2) := Lib.bitLen_half _ (by omega) (by have := Nat.div_le_self n (2 ^ (8 * (k - 1))); omega)
        omega
      omega

theorem OwnB.one (w : World) (c : UInt8) (x : Int) (hx : x = (c.toNat : Int)) : OwnB (w.alloc (.cells #[.int .u8 x] 5)) (some ⟨w.heap.size, 0, none⟩) 1 [c] := by
  subst hx
  exact .of (full := [c]) (heap_alloc_new w _) (by simp) (by simp [maxLen]) rfl (by simp)

/-- A byte ahead of bytes. -/
theorem ahead_app {w wr w1 : World} {A' : Option Addr} {c' : Nat} {x : Value} {zs : List UInt8} (own1 : OwnB w1 A' c' zs) (hc : Chg [] w wr) (hg1 : (wr.alloc (.cells #[x] 5)).grownBy w1 (Option.map (·.block) (some (⟨wr.heap.size, 0, none⟩ : Addr))))
    (hA1 : A' = some ⟨wr.heap.size, 0, none⟩ ∨ A' = some ⟨(wr.alloc (.cells #[x] 5)).heap.size, 0, none⟩) : Fresh w w1 A' c' zs := by
  have hs := hc.size
  refine ⟨own1, ?_, (hc.alloc _).grown hg1 (by simp; omega)⟩
  rintro a rfl
  rcases hA1 with h | h <;> cases h <;> simp <;> omega

/-- What is left of a number above its lowest k digits. -/
def up (n k : Nat) : Nat := n / 256 ^ k
theorem up_zero (n : Nat) : up n 0 = n := by simp [up]
theorem up_succ (n k : Nat) : ((up n k : Nat) : Int) / 256 = ((up n (k + 1) : Nat) : Int) := by
  have : up n (k + 1) = up n k / 256 := by unfold up; rw [Nat.pow_succ, Nat.div_div_eq_div_mul]
  rw [this]; omega
theorem up_le (n k : Nat) : up n k ≤ n := Nat.div_le_self _ _
theorem up_pos {n k : Nat} (h : 0 < up n k) : 256 ^ k ≤ n := by
  unfold up at h
  rcases Nat.lt_or_ge n (256 ^ k) with h1 | h1
  · rw [Nat.div_eq_of_lt h1] at h; omega
  · exact h1
theorem up_none {n k : Nat} (h : ¬ 0 < up n k) : n < 256 ^ k := by
  unfold up at h
  rcases Nat.lt_or_ge n (256 ^ k) with h1 | h1
  · exact h1
  · exact absurd ((Nat.le_div_iff_mul_le (Nat.two_pow_pos (8 * k) |> fun h => by rwa [Nat.pow_mul] at h)).2 (by omega)) (by omega : ¬ 1 ≤ n / 256 ^ k)

set_option maxHeartbeats 400000 in
theorem form_any (w : World) (x : Int) (h0 : 0 ≤ x) (h1 : x ≤ 9223372036854775807) :
    Calls Tryz.prog 79 #[.int .i64 x] w fun r w' => ∃ A c, r = .returned (.slice A (1 + nb x.toNat) c) ∧ Fresh w w' A c (enc x.toNat) := by
  obtain ⟨n, rfl⟩ := Int.eq_ofNat_of_zero_le h0
  have hb := nb_le n (by omega)
  go_enter Tryz.func79, Tryz.ntmps79
  go_wp2
  go_loopw [0, 3] (fun v s wr => ∃ (k : Nat) (A : Option Addr) (c : Nat), k ≤ 8 ∧ v = .int .i64 (up n k : Int) ∧ s = .slice A k c ∧ Fresh w wr A c (be k n) ∧ (k = 0 ∨ 256 ^ (k - 1) ≤ n)) (fun v _ _ => (intOf v).toNat)
  case atStart => exact ⟨0, none, 0, by omega, by rw [up_zero], rfl, ⟨OwnB.none_ _, by simp, Chg.refl _ _⟩, .inl rfl⟩
  case round =>
    obtain ⟨k, A, c, hk, rfl, rfl, hF, hlow⟩ := hrel
    obtain ⟨f1, f2, f3⟩ := hF
    have F2 := Lib.hid f2
    have HW := Lib.hid hlow
    clear f2 hlow
    by_cases hz : 0 < up n k
    · have hk8 : k < 8 := by
        rcases Nat.lt_or_ge k 8 with h | h
        · exact h
        · have e8 : k = 8 := by omega
          subst e8
          have := up_pos hz
          have e8 : 256 ^ 8 = 18446744073709551616 := by decide
          omega
      have hle := up_le n k
      have hs := up_succ n k
      have Hs := Lib.hid hs
      clear hs
      go_wp2_with (at_builtin; refine wpList_app rfl _ _ rfl rfl (OwnB.one wr (UInt8.ofNat (up n k)) _ (by rw [UInt8.toNat_ofNat']; omega)) rfl rfl (by have := (f1.reads).chg ((Chg.refl [] wr).alloc (.cells #[.int .u8 (((up n k : Nat) : Int) % 256)] 5)) (by simp); rw [be_len] at this; exact this) (by omega) ?_; intro A' c' w1 own1 hg1 hA1)
      have Hh := Lib.hid (ahead_app own1 f3 hg1 hA1)
      clear own1 hg1 hA1
      go_roundw
      case rel => exact ⟨k + 1, A', c', by omega, by rw [Hs.out], by rw [Nat.add_comm], ⟨Hh.out.1, Hh.out.2.1, Hh.out.2.2⟩, .inr (by simpa using up_pos hz)⟩
      case measure =>
        have h := Hs.out
        simp only [intOf]
        omega
    · go_wp2_with (at_builtin; refine wpList_app rfl _ _ rfl rfl (OwnB.one wr (UInt8.ofNat k) _ (u8_of _ _ rfl (by omega))) rfl rfl (by have := (f1.reads).chg ((Chg.refl [] wr).alloc (.cells #[.int .u8 (k : Int)] 5)) (by simp); rw [be_len] at this; exact this) (by omega) ?_; intro A' c' w1 own1 hg1 hA1)
      go_ret
      have hk' : k = nb n := nb_char n k hk (up_none hz) HW.out
      subst hk'
      exact ⟨A', c', rfl, ahead_app own1 f3 hg1 hA1⟩
end
section
open Go.RowKit

def VWr (w : World) (b g : Nat) (xs : List UInt8) (e : Int) : Prop :=
  ∃ A c, w.heap[b]? = some (.cells #[.slice A xs.length c, .int .i64 e] 69 (0, 0)) ∧ OwnB w A c xs ∧ (A = none ∧ g = b ∨ A = some ⟨g, 0, none⟩)
theorem VWr.chg {S : List Nat} {w w' : World} {b g : Nat} {xs : List UInt8} {e : Int} (h : VWr w b g xs e) (hc : Chg S w w') (hb : b ∉ S) (hg : g ∉ S) : VWr w' b g xs e := by
  obtain ⟨A, c, h1, h2, h3⟩ := h
  refine ⟨A, c, hc.at_ h1 hb, h2.chg hc ?_, h3⟩
  rintro a rfl
  rcases h3 with ⟨h3, _⟩ | h3
  · cases h3
  · cases h3; exact hg
theorem VWr.lt {w : World} {b g : Nat} {xs : List UInt8} {e : Int} (h : VWr w b g xs e) : b < w.heap.size ∧ g < w.heap.size := by
  obtain ⟨A, c, h1, h2, h3⟩ := h
  have hb := lt_of_heap h1
  rcases h3 with ⟨_, rfl⟩ | rfl
  · exact ⟨hb, hb⟩
  · rcases h2.form with ⟨h, _⟩ | ⟨g', cur, h, h4, _⟩
    · cases h
    · cases h; exact ⟨hb, lt_of_heap h4⟩
def VBetween (w wr : World) (b g : Nat) (xs : List UInt8) (e : Int) : Prop := ∃ g', VWr wr b g' xs e ∧ Chg [b, g] w wr ∧ (g' = g ∨ w.heap.size ≤ g')
theorem VBetween.refl {w : World} {b g : Nat} {xs : List UInt8} {e : Int} (h : VWr w b g xs e) : VBetween w w b g xs e := ⟨g, h, Chg.refl _ _, .inl rfl⟩
/-- What is new ahead of the call is no matter. -/
theorem VBetween.later {w w1 w2 : World} {b g : Nat} {xs : List UInt8} {e : Int} (hc : Chg [] w w1) (h : VBetween w1 w2 b g xs e) : VBetween w w2 b g xs e := by
  obtain ⟨g', h1, h2, h3⟩ := h
  have := hc.size
  refine ⟨g', h1, (hc.mono (by simp)).trans h2, ?_⟩
  rcases h3 with h3 | h3
  · exact .inl h3
  · right; omega

set_option maxHeartbeats 400000 in
theorem vput_had (w : World) (b g : Nat) (xs : List UInt8) (e e' : Int) (B : Option Addr) (m d : Nat) (h : VWr w b g xs e) (he : (e != 0) = true) :
    Calls Tryz.prog 78 #[.pointer (some ⟨b, 0, none⟩), .slice B m d, .int .i64 e'] w fun r w' => r = .returned (.tuple #[]) ∧ w = w' := by
  obtain ⟨A, c, h1, _, _⟩ := h
  have h0 := cell_of h1 1
  simp only [List.getElem?_toArray, List.getElem?_cons_zero, List.getElem?_cons_succ] at h0
  have H := Lib.hid h1
  clear h1
  go_enter Tryz.func78, Tryz.ntmps78
  go_wp2
  refine bodyPost_ret (results_none rfl _ _ _) rfl ?_
  exact ⟨rfl, rfl⟩

theorem verr_fin {w : World} {b g : Nat} {xs : List UInt8} {A : Option Addr} {c : Nat} (e0 e : Int) (h1 : w.heap[b]? = some (.cells #[.slice A xs.length c, .int .i64 e0] 69 (0, 0))) (h2 : OwnB w A c xs) (h3 : A = none ∧ g = b ∨ A = some ⟨g, 0, none⟩) :
    VBetween w (w.setCell ⟨b, 1, none⟩ (.int .i64 e)) b g xs e := by
  have q := heap_setCell_same w b 1 _ _ (.int .i64 e) h1
  have hne := h2.ne h1 (by decide)
  refine ⟨g, ⟨A, c, by simpa using q, h2.keep fun g o eA ho => ?_, h3⟩, (Chg.refl _ _).setCell (by simp) _, .inl rfl⟩
  rw [Below.heap_setCell _ _ _ _ (by have := hne _ eA; exact this)]; exact ho

set_option maxHeartbeats 400000 in
theorem vput_err (w : World) (b g : Nat) (xs : List UInt8) (e' : Int) (B : Option Addr) (m d : Nat) (h : VWr w b g xs 0) (he : (e' == 0) = false) :
    Calls Tryz.prog 78 #[.pointer (some ⟨b, 0, none⟩), .slice B m d, .int .i64 e'] w fun r w' => r = .returned (.tuple #[]) ∧ VBetween w w' b g xs e' := by
  obtain ⟨A, c, h1, h2, h3⟩ := h
  have h0 := cell_of h1 1
  have f0 := free_of h1 1
  simp only [List.getElem?_toArray, List.getElem?_cons_zero, List.getElem?_cons_succ] at h0
  have H := Lib.hid h1
  have H3 := Lib.hid h3
  clear h1 h3
  go_enter Tryz.func78, Tryz.ntmps78
  go_wp2
  go_end0
  exact ⟨rfl, verr_fin _ _ H.out h2 H3.out⟩
set_option maxHeartbeats 400000 in
theorem vput_long (w : World) (b g : Nat) (xs : List UInt8) (B : Option Addr) (m d : Nat) (h : VWr w b g xs 0) (hx : xs.length ≤ 1048576) (hm : m ≤ 140737488355300) (hl : 1048576 < xs.length + m) :
    Calls Tryz.prog 78 #[.pointer (some ⟨b, 0, none⟩), .slice B m d, .int .i64 0] w fun r w' => r = .returned (.tuple #[]) ∧ VBetween w w' b g xs 3 := by
  obtain ⟨A, c, h1, h2, h3⟩ := h
  have h0 := cell_of h1 1
  have h4 := cell_of h1 0
  have f0 := free_of h1 1
  simp only [List.getElem?_toArray, List.getElem?_cons_zero, List.getElem?_cons_succ] at h0 h4
  have H := Lib.hid h1
  have H3 := Lib.hid h3
  clear h1 h3
  go_enter Tryz.func78, Tryz.ntmps78
  go_wp2
  go_end0
  exact ⟨rfl, verr_fin _ _ H.out h2 H3.out⟩

theorem vwr_put {w w1 : World} {b g : Nat} {xs zs : List UInt8} {e : Int} {A A' : Option Addr} {c c' n : Nat} (h1 : w.heap[b]? = some (.cells #[.slice A xs.length c, .int .i64 e] 69 (0, 0))) (h2 : OwnB w A c xs)
    (h3 : A = none ∧ g = b ∨ A = some ⟨g, 0, none⟩) (own1 : OwnB w1 A' c' zs) (hg1 : w.grownBy w1 (A.map (·.block))) (hA1 : A' = A ∨ A' = some ⟨w.heap.size, 0, none⟩) (hn : n = zs.length) :
    VBetween w (w1.setCell ⟨b, 0, none⟩ (.slice A' n c')) b g zs e := by
  subst hn
  have hne := h2.ne h1 (by decide)
  have q1 := grown_at hg1 h1 hne
  have q2 := heap_setCell_same w1 b 0 _ _ (.slice A' zs.length c') q1
  have hne' := own1.ne q1 (by decide)
  have own2 : OwnB (w1.setCell ⟨b, 0, none⟩ (.slice A' zs.length c')) A' c' zs := own1.keep fun g o eA ho => by
    rw [Below.heap_setCell _ _ _ _ (by have := hne' _ eA; exact this)]; exact ho
  have hc : Chg [b, g] w (w1.setCell ⟨b, 0, none⟩ (.slice A' zs.length c')) :=
    ((Chg.refl _ _).grown hg1 (fun k hk => by
      rcases h3 with ⟨rfl, _⟩ | rfl
      · cases hk
      · simp at hk; subst hk; simp)).setCell (by simp) _
  rcases hA1 with rfl | rfl
  · exact ⟨g, ⟨A', c', by simpa using q2, own2, h3⟩, hc, .inl rfl⟩
  · exact ⟨w.heap.size, ⟨_, c', by simpa using q2, own2, .inr rfl⟩, hc, .inr (Nat.le_refl _)⟩

theorem set_same {w : World} {b : Nat} {cs : Array Value} {t : TypeId} {j : Nat} {v : Value} (h : w.heap[b]? = some (.cells cs t (0, 0))) (hj : cs[j]? = some v) : w.setCell ⟨b, j, none⟩ v = w := by
  have : (w.setCell ⟨b, j, none⟩ v).heap = w.heap := by
    apply Array.ext_getElem?
    intro i
    by_cases hi : i = b
    · subst hi
      rw [heap_setCell_same w i j _ _ v h, h]
      congr 2
      apply Array.ext_getElem?
      intro k
      rw [Array.getElem?_setIfInBounds]
      split
      · rename_i e; subst e
        obtain ⟨h5, h6⟩ := Array.getElem?_eq_some_iff.1 hj
        simp [h5, h6]
      · rfl
    · exact Below.heap_setCell _ _ _ _ hi
  unfold World.setCell at this ⊢
  simp only at this
  rw [this]

set_option maxHeartbeats 400000 in
theorem vput_fine (w : World) (b g : Nat) (xs : List UInt8) (B : Option Addr) (m d : Nat) (ys : List UInt8) (h : VWr w b g xs 0) (hr : Bs w B m ys) (hl : xs.length + m ≤ 1048576) :
    Calls Tryz.prog 78 #[.pointer (some ⟨b, 0, none⟩), .slice B m d, .int .i64 0] w fun r w' => r = .returned (.tuple #[]) ∧ VBetween w w' b g (xs ++ ys) 0 := by
  obtain ⟨A, c, h1, h2, h3⟩ := h
  have hs : w.setCell ⟨b, 1, none⟩ (.int .i64 0) = w := set_same h1 rfl
  have hne := h2.ne h1 (by decide)
  have h0 := cell_of h1 1
  have h4 := cell_of h1 0
  have f0 := free_of h1 1
  simp only [List.getElem?_toArray, List.getElem?_cons_zero, List.getElem?_cons_succ] at h0 h4
  have H := Lib.hid h1
  have H3 := Lib.hid h3
  clear h1 h3
  go_enter Tryz.func78, Tryz.ntmps78
  go_wp2_with (at_builtin; refine wpList_app rfl _ _ rfl rfl h2 rfl rfl hr (by omega) ?_; intro A' c' w1 own1 hg1 hA1; have q1 := grown_at hg1 H.out hne; have Q1 := Lib.hid q1; have q2 := cell_of q1 0; have q3 := free_of q1 0; simp only [List.getElem?_toArray, List.getElem?_cons_zero] at q2; clear q1)
  go_end0
  exact ⟨rfl, vwr_put H.out h2 H3.out own1 hg1 hA1 (by simp [hr.len])⟩

theorem nb_fits (n : Nat) (h : n ≤ 9223372036854775807) : nb n ≤ 8 := nb_le n (by omega)

set_option maxHeartbeats 400000 in
theorem vnum_any (w : World) (b g : Nat) (xs : List UInt8) (e x : Int) (h : VWr w b g xs e) (hlen : xs.length ≤ 1048576) (hx : -9223372036854775808 ≤ x) (hx2 : x ≤ 9223372036854775807) :
    Calls Tryz.prog 40 #[.pointer (some ⟨b, 0, none⟩), .int .i64 x] w fun r w' => r = .returned (.tuple #[]) ∧ VBetween w w' b g (wNum xs e x).1 (wNum xs e x).2 := by
  by_cases h1 : x < 0 ∨ 4611686018427387903 < x
  · have hp : Calls Tryz.prog 78 #[.pointer (some ⟨b, 0, none⟩), .slice none 0 0, .int .i64 5] w fun r w' => r = .returned (.tuple #[]) ∧ VBetween w w' b g (wNum xs e x).1 (wNum xs e x).2 := by
      unfold wNum
      by_cases he : e = 0
      · subst he
        simp only [ne_eq, not_true_eq_false, if_false, if_pos h1]
        exact vput_err w b g xs 5 none 0 0 h rfl
      · simp only [ne_eq, he, not_false_eq_true, if_true]
        exact (vput_had w b g xs e 5 none 0 0 h (by simpa using he)).mono fun r w' ⟨h1, h2⟩ => ⟨h1, h2 ▸ VBetween.refl h⟩
    have HP := Lib.hid hp
    clear hp
    rcases h1 with h1 | h1
    all_goals
      go_enter Tryz.func40, Tryz.ntmps40
      go_wp2_with (go_at_call 78; refine HP.out.mono ?_; rintro r w1 ⟨rfl, hB⟩)
      refine bodyPost_ret (results_none rfl _ _ _) rfl ?_
      exact ⟨rfl, hB⟩
  · have h2 : 0 ≤ x := by omega
    have h3 : x ≤ 4611686018427387903 := by omega
    have hb := nb_fits x.toNat (by omega)
    have hp : ∀ w1 A c, Fresh w w1 A c (enc x.toNat) → Calls Tryz.prog 78 #[.pointer (some ⟨b, 0, none⟩), .slice A (1 + nb x.toNat) c, .int .i64 0] w1 fun r w' => r = .returned (.tuple #[]) ∧ VBetween w1 w' b g (wNum xs e x).1 (wNum xs e x).2 := by
      intro w1 A c hF
      have hv := h.chg hF.2.2 (by simp) (by simp)
      have hr := hF.1.reads
      rw [enc_len] at hr
      unfold wNum
      by_cases he : e = 0
      · subst he
        by_cases h4 : 1048576 < 1 + nb x.toNat + xs.length
        · simp only [ne_eq, not_true_eq_false, if_false, if_neg h1, if_pos h4]
          exact vput_long w1 b g xs A _ c hv hlen (by omega) (by omega)
        · simp only [ne_eq, not_true_eq_false, if_false, if_neg h1, if_neg h4]
          exact vput_fine w1 b g xs A _ c _ hv hr (by omega)
      · simp only [ne_eq, he, not_false_eq_true, if_true]
        exact (vput_had w1 b g xs e 0 A _ c hv (by simpa using he)).mono fun r w' ⟨h1, h2⟩ => ⟨h1, h2 ▸ VBetween.refl hv⟩
    have HP := Lib.hid hp
    clear hp h1
    go_enter Tryz.func40, Tryz.ntmps40
    go_wp2_with (first
      | (go_at_call 79; refine (form_any _ x h2 (by omega)).mono ?_; rintro r w1 ⟨A, c, rfl, hF⟩; have HF := Lib.hid hF; clear hF)
      | (go_at_call 78; refine (HP.out _ _ _ HF.out).mono ?_; rintro r w2 ⟨rfl, hB⟩))
    go_end0
    exact ⟨rfl, VBetween.later HF.out.2.2 hB⟩
end
section
open Go.RowKit

theorem fresh_grown {w w1 w2 : World} {A A' : Option Addr} {c c' : Nat} {xs zs : List UInt8} (hF : Fresh w w1 A c xs) (own : OwnB w2 A' c' zs) (hg : w1.grownBy w2 (A.map (·.block))) (hA : A' = A ∨ A' = some ⟨w1.heap.size, 0, none⟩) : Fresh w w2 A' c' zs := by
  have hs := hF.2.2.size
  refine ⟨own, ?_, hF.2.2.grown hg (fun k hk => ?_)⟩
  · rintro a rfl
    rcases hA with h | h
    · exact hF.2.1 _ h.symm
    · cases h; exact hs
  · cases A with
    | none => cases hk
    | some a => simp at hk; subst hk; exact .inr (hF.2.1 _ rfl)

set_option maxHeartbeats 400000 in
theorem vraw_any (w : World) (b g : Nat) (xs : List UInt8) (e : Int) (B : Option Addr) (m d : Nat) (ys : List UInt8) (h : VWr w b g xs e) (hlen : xs.length ≤ 1048576) (hm : m ≤ 140737488351232) (hr : Bs w B m ys) :
    Calls Tryz.prog 39 #[.pointer (some ⟨b, 0, none⟩), .slice B m d] w fun r w' => r = .returned (.tuple #[]) ∧ VBetween w w' b g (wRaw xs e ys).1 (wRaw xs e ys).2 := by
  have hl := hr.len
  subst hl
  have hb := nb_fits ys.length (by omega)
  have hp : ∀ w1 A c, Fresh w w1 A c (enc (ys.length : Int).toNat ++ ys) → Calls Tryz.prog 78 #[.pointer (some ⟨b, 0, none⟩), .slice A (1 + nb ys.length + ys.length) c, .int .i64 0] w1 fun r w' => r = .returned (.tuple #[]) ∧ VBetween w1 w' b g (wRaw xs e ys).1 (wRaw xs e ys).2 := by
    intro w1 A c hF
    have hv := h.chg hF.2.2 (by simp) (by simp)
    have hr := hF.1.reads
    rw [List.length_append, enc_len, Int.toNat_natCast] at hr
    unfold wRaw
    by_cases he : e = 0
    · subst he
      by_cases h4 : 1048576 < 1 + nb ys.length + ys.length + xs.length
      · simp only [ne_eq, not_true_eq_false, if_false, if_pos h4]
        exact vput_long w1 b g xs A _ c hv hlen (by omega) (by omega)
      · simp only [ne_eq, not_true_eq_false, if_false, if_neg h4, List.append_assoc]
        exact vput_fine w1 b g xs A _ c _ hv hr (by omega)
    · simp only [ne_eq, he, not_false_eq_true, if_true]
      exact (vput_had w1 b g xs e 0 A _ c hv (by simpa using he)).mono fun r w' ⟨h1, h2⟩ => ⟨h1, h2 ▸ VBetween.refl hv⟩
  have HP := Lib.hid hp
  have HR := Lib.hid hr
  have hel : (enc (ys.length : Int).toNat).length = 1 + nb ys.length := by rw [enc_len, Int.toNat_natCast]
  have HE := Lib.hid hel
  clear hp hr hel
  go_enter Tryz.func39, Tryz.ntmps39
  go_wp2_with (first
    | (go_at_call 79; refine (form_any _ _ (by omega) (by omega)).mono ?_; rintro r w1 ⟨A, c, rfl, hF⟩; have HF := Lib.hid hF; clear hF)
    | (at_builtin; refine wpList_app rfl _ _ rfl rfl HF.out.1 HE.out rfl (HR.out.chg HF.out.2.2 (by simp)) (by omega) ?_; intro A2 c2 w2 own2 hg2 hA2; have HF2 := Lib.hid (fresh_grown HF.out own2 hg2 hA2); clear own2 hg2 hA2)
    | (go_at_call 78; refine (HP.out _ _ _ HF2.out).mono ?_; rintro r w3 ⟨rfl, hB⟩))
  go_end0
  exact ⟨rfl, VBetween.later HF2.out.2.2 hB⟩

set_option maxHeartbeats 400000 in
theorem vtext_any (w : World) (b g : Nat) (xs : List UInt8) (e : Int) (s : ByteArray) (h : VWr w b g xs e) (hlen : xs.length ≤ 1048576) (hm : s.size ≤ 140737488351232) :
    Calls Tryz.prog 38 #[.pointer (some ⟨b, 0, none⟩), .string s] w fun r w' => r = .returned (.tuple #[]) ∧ VBetween w w' b g (wRaw xs e s.data.toList).1 (wRaw xs e s.data.toList).2 := by
  have hcv := fun w => run_bytes_of_string (P := Tryz.prog) w 9 22 5 s Tryz.underlying9 Tryz.underlying22 Tryz.underlying5
  have hc : Chg [] w (w.alloc (.cells (bytesRow s (grownCap w s.size 0 5)) 5 ((bytesRow s (grownCap w s.size 0 5)).size, (bytesRow s (grownCap w s.size 0 5)).size + 1))).drew := ((Chg.refl [] w).alloc _).drew
  have hv := vraw_any _ b g xs e (some ⟨w.heap.size, 0, none⟩) s.size (grownCap w s.size 0 5) s.data.toList (h.chg hc (by simp) (by simp)) hlen hm (Bs.str w s _ _)
  have HV := Lib.hid hv
  have HC := Lib.hid hc
  clear hv hc
  go_enter Tryz.func38, Tryz.ntmps38
  go_wp2_with (go_at_call 39; refine HV.out.mono ?_; rintro r w1 ⟨rfl, hB⟩)
  go_end0
  exact ⟨rfl, VBetween.later HC.out hB⟩

set_option maxHeartbeats 400000 in
theorem vout_any (w : World) (b g : Nat) (xs : List UInt8) (e : Int) (h : VWr w b g xs e) (hlen : xs.length ≤ 1048576) :
    Calls Tryz.prog 41 #[.pointer (some ⟨b, 0, none⟩)] w fun r w' => ∃ A c, r = .returned (.tuple #[.slice A (outs xs e).length c, .int .i64 e]) ∧ Fresh w w' A c (outs xs e) := by
  obtain ⟨A, c, h1, h2, _⟩ := id h
  have k1 := cell_of h1 0
  have k2 := cell_of h1 1
  simp only [List.getElem?_toArray, List.getElem?_cons_zero, List.getElem?_cons_succ] at k1 k2
  have hb := lt_of_heap h1
  have H := Lib.hid h1
  clear h1
  unfold outs
  by_cases he : e = 0
  · subst he
    simp only [if_true]
    go_enter Tryz.func41, Tryz.ntmps41
    go_wp2_with (at_builtin; refine wpList_app rfl _ _ rfl rfl (OwnB.empty w) rfl rfl (h2.reads.chg ((Chg.refl [] w).alloc _) (by simp)) (by simp; omega) ?_; intro A' c' w1 own1 hg1 hA1)
    go_ret2
    exact ⟨A', c', by simp, fresh_app own1 hg1 hA1⟩
  · simp only [if_neg he]
    have he' : (e != 0) = true := by simpa using he
    clear he
    go_enter Tryz.func41, Tryz.ntmps41
    go_wp2
    go_region
    all_goals (go_wp2; go_ret2; exact ⟨none, 0, rfl, OwnB.none_ _, by simp, (Chg.refl _ _).drew⟩)
end
section
open Go.RowKit

/-- The document's reader at block v, of the bytes at A. -/
def URdr (w : World) (v : Nat) (A : Option Addr) (c : Nat) (xs : List UInt8) (p : Nat) (fe fa : Int) : Prop :=
  w.heap[v]? = some (.cells #[.slice A xs.length c, .int .i64 p, .int .i64 fe, .int .i64 fa] 125 (0, 0)) ∧ Bs w A xs.length xs ∧ (xs = [] ∨ ∀ a, A = some a → a.block ≠ v) ∧ xs.length ≤ c ∧ c ≤ 9223372036854775807

theorem URdr.chg {S : List Nat} {w w' : World} {v : Nat} {A : Option Addr} {c : Nat} {xs : List UInt8} {p : Nat} {fe fa : Int} (h : URdr w v A c xs p fe fa) (hc : Chg S w w') (hv : v ∉ S) (hA : xs = [] ∨ ∀ a, A = some a → a.block ∉ S) : URdr w' v A c xs p fe fa := by
  obtain ⟨h1, h2, h3⟩ := h
  refine ⟨hc.at_ h1 hv, ?_, h3⟩
  rcases hA with rfl | hA
  · exact Bs.nil _ _
  · exact h2.chg hc hA
theorem URdr.cells {w : World} {v : Nat} {A : Option Addr} {c : Nat} {xs : List UInt8} {p : Nat} {fe fa : Int} (h : URdr w v A c xs p fe fa) :
    w.cell? ⟨v, 0, none⟩ = some (.slice A xs.length c) ∧ w.cell? ⟨v, 1, none⟩ = some (.int .i64 p) ∧ w.cell? ⟨v, 2, none⟩ = some (.int .i64 fe) ∧ w.cell? ⟨v, 3, none⟩ = some (.int .i64 fa) ∧ ∀ j, w.frozen? ⟨v, j, none⟩ = false :=
  ⟨cell_of h.1 0, cell_of h.1 1, cell_of h.1 2, cell_of h.1 3, fun j => free_of h.1 j⟩
theorem URdr.set {w : World} {v : Nat} {A : Option Addr} {c : Nat} {xs : List UInt8} {p : Nat} {fe fa : Int} (h : URdr w v A c xs p fe fa) (e q : Int) :
    URdr ((w.setCell ⟨v, 2, none⟩ (.int .i64 e)).setCell ⟨v, 3, none⟩ (.int .i64 q)) v A c xs p e q ∧ Chg [v] w ((w.setCell ⟨v, 2, none⟩ (.int .i64 e)).setCell ⟨v, 3, none⟩ (.int .i64 q)) := by
  have q1 := heap_setCell_same w v 2 _ _ (.int .i64 e) h.1
  have q2 := heap_setCell_same _ v 3 _ _ (.int .i64 q) q1
  have hc : Chg [v] w ((w.setCell ⟨v, 2, none⟩ (.int .i64 e)).setCell ⟨v, 3, none⟩ (.int .i64 q)) := ((Chg.refl _ _).setCell (by simp) _).setCell (by simp) _
  refine ⟨⟨by simpa using q2, ?_, h.2.2⟩, hc⟩
  rcases h.2.2.1 with h3 | h3
  · subst h3; exact Bs.nil _ _
  · exact h.2.1.chg hc (fun a e => by simpa using h3 a e)
theorem URdr.place {w : World} {v : Nat} {A : Option Addr} {c : Nat} {xs : List UInt8} {p : Nat} {fe fa : Int} (h : URdr w v A c xs p fe fa) (q : Nat) :
    URdr (w.setCell ⟨v, 1, none⟩ (.int .i64 q)) v A c xs q fe fa ∧ Chg [v] w (w.setCell ⟨v, 1, none⟩ (.int .i64 q)) := by
  have q1 := heap_setCell_same w v 1 _ _ (.int .i64 q) h.1
  have hc : Chg [v] w (w.setCell ⟨v, 1, none⟩ (.int .i64 q)) := (Chg.refl _ _).setCell (by simp) _
  refine ⟨⟨by simpa using q1, ?_, h.2.2⟩, hc⟩
  rcases h.2.2.1 with h3 | h3
  · subst h3; exact Bs.nil _ _
  · exact h.2.1.chg hc (fun a e => by simpa using h3 a e)
theorem URdr.drewN {w : World} {v : Nat} {A : Option Addr} {c : Nat} {xs : List UInt8} {p : Nat} {fe fa : Int} (h : URdr w v A c xs p fe fa) (n : Nat) : URdr (w.drewN n) v A c xs p fe fa := h.chg ((Chg.refl [] w).drewN n) (by simp) (.inr (by simp))
/-- Where the bytes lie. -/
theorem Bs.from {w : World} {A : Option Addr} {n : Nat} {xs : List UInt8} (h : Bs w A n xs) (h0 : 0 < xs.length) : ∃ g o, A = some ⟨g, o, none⟩ ∧ ∀ j, j < xs.length → w.cell? ⟨g, o + j, none⟩ = some (.int .u8 ((xs.getD j 0).toNat : Int)) := by
  obtain ⟨a, rfl, hc⟩ := h.cells 0 _ (List.getElem?_eq_getElem h0)
  have hsp := World.cell?_spot hc
  obtain ⟨g, o, sp⟩ := a
  have hsp : sp = none := by simpa [Addr.add] using hsp
  subst hsp
  refine ⟨g, o, rfl, fun j hj => ?_⟩
  obtain ⟨a', e, hcj⟩ := h.cells j _ (List.getElem?_eq_getElem hj)
  cases e
  rw [add_lit] at hcj
  rw [hcj]
  simp [bv, List.getD, hj]

set_option maxHeartbeats 400000 in
theorem vopen_any (w : World) (A : Option Addr) (c : Nat) (xs : List UInt8) (h : Bs w A xs.length xs) (hc1 : xs.length ≤ c) (hc2 : c ≤ 9223372036854775807) :
    Calls Tryz.prog 49 #[.slice A xs.length c] w fun r w' => r = .returned (.pointer (some ⟨w.heap.size, 0, none⟩)) ∧ URdr w' w.heap.size A c xs 0 0 0 ∧ Chg [] w w' := by
  have hold := h.old
  have HO := Lib.hid hold
  clear hold
  go_enter Tryz.func49, Tryz.ntmps49
  go_wp2
  go_ret
  refine ⟨rfl, ⟨heap_alloc_new w _, h.chg ((Chg.refl [] w).alloc _) (by simp), ?_, hc1, hc2⟩, (Chg.refl _ _).alloc _⟩
  rcases HO.out with h1 | h1
  · exact .inl h1
  · exact .inr fun a e => by have := h1 a e; omega

set_option maxHeartbeats 400000 in
theorem ufail_any (w : World) (v : Nat) (A : Option Addr) (c : Nat) (xs : List UInt8) (p : Nat) (fa e q : Int) (h : URdr w v A c xs p 0 fa) :
    Calls Tryz.prog 85 #[.pointer (some ⟨v, 0, none⟩), .int .i64 e, .int .i64 q] w fun r w' => r = .returned (.int .i64 0) ∧ URdr w' v A c xs p e q ∧ Chg [v] w w' := by
  obtain ⟨k0, k1, k2, k3, f⟩ := h.cells
  have f2 := f 2
  have f3 := f 3
  have H := Lib.hid h
  clear h f
  go_enter Tryz.func85, Tryz.ntmps85
  go_wp2
  go_ret
  exact ⟨rfl, H.out.set e q⟩

/-- The fault that End tells. -/
def endF (xs : List UInt8) (p : Nat) (fe fa : Int) : Int × Int := if fe = 0 ∧ p < xs.length then (4, p) else (fe, fa)

set_option maxHeartbeats 400000 in
theorem uend_any (w : World) (v : Nat) (A : Option Addr) (c : Nat) (xs : List UInt8) (p : Nat) (fe fa : Int) (h : URdr w v A c xs p fe fa) :
    Calls Tryz.prog 53 #[.pointer (some ⟨v, 0, none⟩)] w fun r w' => r = .returned (.agg #[.int .i64 (endF xs p fe fa).1, .int .i64 (endF xs p fe fa).2]) ∧ Chg [] w w' := by
  have hv := lt_of_heap h.1
  obtain ⟨k0, k1, k2, k3, f⟩ := h.cells
  clear h f
  unfold endF
  by_cases he : fe = 0
  · subst he
    by_cases hpl : p < xs.length
    · simp only [true_and, if_pos hpl]
      go_enter Tryz.func53, Tryz.ntmps53
      go_wp2
      go_quiet (fail)
      go_wp2
      refine bodyPost_ret (v := .agg #[.int .i64 4, .int .i64 p]) (by simp [results, Tryz.results53, go_sem]) rfl ?_
      exact ⟨rfl, ((((Chg.refl _ _).alloc _).drewN _).setCell (.inr (Nat.le_refl _)) _).setCell (.inr (Nat.le_refl _)) _⟩
    · simp only [true_and, if_neg hpl]
      go_enter Tryz.func53, Tryz.ntmps53
      go_wp2
      go_quiet (fail)
      go_wp2
      refine bodyPost_ret (v := .agg #[.int .i64 0, .int .i64 fa]) (by simp [results, Tryz.results53, go_sem]) rfl ?_
      exact ⟨rfl, ((((Chg.refl _ _).alloc _).drewN _).setCell (.inr (Nat.le_refl _)) _).setCell (.inr (Nat.le_refl _)) _⟩
  · simp only [he, false_and, if_false]
    have he' : (fe == 0) = false := by simpa using he
    clear he
    go_enter Tryz.func53, Tryz.ntmps53
    go_wp2
    go_quiet (fail)
    go_wp2
    refine bodyPost_ret (v := .agg #[.int .i64 fe, .int .i64 fa]) (by simp [results, Tryz.results53, go_sem]) rfl ?_
    exact ⟨rfl, ((((Chg.refl _ _).alloc _).drewN _).setCell (.inr (Nat.le_refl _)) _).setCell (.inr (Nat.le_refl _)) _⟩
end
section
open Go.RowKit

/-- What Num of the document's reader leaves. -/
def UNumPost (w : World) (v : Nat) (A : Option Addr) (c : Nat) (xs : List UInt8) (r : Int × Nat × Int × Int) (e : Ending) (w' : World) : Prop :=
  e = .returned (.int .i64 r.1) ∧ URdr w' v A c xs r.2.1 r.2.2.1 r.2.2.2 ∧ Chg [v] w w'

set_option maxHeartbeats 400000 in
theorem unum_no (w : World) (v : Nat) (A : Option Addr) (c : Nat) (xs : List UInt8) (p : Nat) (fe fa low high : Int) (h : URdr w v A c xs p fe fa) (he : fe ≠ 0) :
    Calls Tryz.prog 52 #[.pointer (some ⟨v, 0, none⟩), .int .i64 low, .int .i64 high] w (UNumPost w v A c xs (0, p, fe, fa)) := by
  obtain ⟨k0, k1, k2, k3, f⟩ := h.cells
  have H := Lib.hid h
  have he' : (fe != 0) = true := by simpa using he
  clear he h f
  go_enter Tryz.func52, Tryz.ntmps52
  go_wp2
  go_ret
  exact ⟨rfl, H.out, Chg.refl _ _⟩

set_option maxHeartbeats 400000 in
theorem unum_end (w : World) (v : Nat) (A : Option Addr) (c : Nat) (xs : List UInt8) (fa low high : Int) (h : URdr w v A c xs xs.length 0 fa) :
    Calls Tryz.prog 52 #[.pointer (some ⟨v, 0, none⟩), .int .i64 low, .int .i64 high] w (UNumPost w v A c xs (0, xs.length, 4, xs.length)) := by
  obtain ⟨k0, k1, k2, k3, f⟩ := h.cells
  have H := Lib.hid h
  clear h f
  go_enter Tryz.func52, Tryz.ntmps52
  go_wp2
  go_quiet (fail)
  go_wp2_with fail
  refine (ufail_any _ v A c xs _ fa 4 xs.length (H.out.drewN _)).mono ?_
  rintro r w1 ⟨rfl, hR, hC⟩
  go_wp2
  go_ret
  exact ⟨rfl, hR, ((Chg.refl _ _).drewN _).trans hC⟩

set_option maxHeartbeats 400000 in
theorem unum_arg (w : World) (v : Nat) (A : Option Addr) (c : Nat) (xs : List UInt8) (p : Nat) (fa low high : Int) (h : URdr w v A c xs p 0 fa) (hp : p < xs.length) (hl : xs.length ≤ 140737488351232) (h8 : 8 < bt xs p) :
    Calls Tryz.prog 52 #[.pointer (some ⟨v, 0, none⟩), .int .i64 low, .int .i64 high] w (UNumPost w v A c xs (0, p, 2, p)) := by
  obtain ⟨k0, k1, k2, k3, f⟩ := h.cells
  have H := Lib.hid h
  obtain ⟨g, o, rfl, hc⟩ := h.2.1.from (by omega)
  have hcp : w.cell? ⟨g, o + p, none⟩ = some (.int .u8 (bt xs p : Int)) := hc p hp
  have hbb := bt_lt xs p
  clear h f hc
  go_enter Tryz.func52, Tryz.ntmps52
  go_wp2
  iterate 2 (go_quiet (fail); go_wp2_with fail)
  refine (ufail_any _ v _ c xs _ fa 2 p (H.out.drewN _)).mono ?_
  rintro r w1 ⟨rfl, hR, hC⟩
  go_wp2
  go_ret
  exact ⟨rfl, hR, ((Chg.refl _ _).drewN _).trans hC⟩

set_option maxHeartbeats 400000 in
theorem unum_short (w : World) (v : Nat) (A : Option Addr) (c : Nat) (xs : List UInt8) (p : Nat) (fa low high : Int) (h : URdr w v A c xs p 0 fa) (hp : p < xs.length) (hl : xs.length ≤ 140737488351232) (h8 : bt xs p ≤ 8) (hs : xs.length - (p + 1) < bt xs p) :
    Calls Tryz.prog 52 #[.pointer (some ⟨v, 0, none⟩), .int .i64 low, .int .i64 high] w (UNumPost w v A c xs (0, p, 4, xs.length)) := by
  obtain ⟨k0, k1, k2, k3, f⟩ := h.cells
  have H := Lib.hid h
  obtain ⟨g, o, rfl, hc⟩ := h.2.1.from (by omega)
  have hcp : w.cell? ⟨g, o + p, none⟩ = some (.int .u8 (bt xs p : Int)) := hc p hp
  have hbb := bt_lt xs p
  clear h f hc
  go_enter Tryz.func52, Tryz.ntmps52
  go_wp2
  iterate 3 (go_quiet (fail); go_wp2_with fail)
  refine (ufail_any _ v _ c xs _ fa 4 xs.length (H.out.drewN _)).mono ?_
  rintro r w1 ⟨rfl, hR, hC⟩
  go_wp2
  go_ret
  exact ⟨rfl, hR, ((Chg.refl _ _).drewN _).trans hC⟩

set_option maxHeartbeats 400000 in
theorem unum_zero (w : World) (v : Nat) (A : Option Addr) (c : Nat) (xs : List UInt8) (p : Nat) (fa low high : Int) (h : URdr w v A c xs p 0 fa) (hp : p < xs.length) (hl : xs.length ≤ 140737488351232) (h8 : bt xs p ≤ 8) (hs : bt xs p ≤ xs.length - (p + 1)) (h1 : 0 < bt xs p) (hz : bt xs (p + 1) = 0) :
    Calls Tryz.prog 52 #[.pointer (some ⟨v, 0, none⟩), .int .i64 low, .int .i64 high] w (UNumPost w v A c xs (0, p, 2, p)) := by
  obtain ⟨k0, k1, k2, k3, f⟩ := h.cells
  have H := Lib.hid h
  obtain ⟨g, o, rfl, hc⟩ := h.2.1.from (by omega)
  have hcp : w.cell? ⟨g, o + p, none⟩ = some (.int .u8 (bt xs p : Int)) := hc p hp
  have hcz : w.cell? ⟨g, o + (p + 1), none⟩ = some (.int .u8 (bt xs (p + 1) : Int)) := hc (p + 1) (by omega)
  rw [hz] at hcz
  have hbb := bt_lt xs p
  clear h f hc
  go_enter Tryz.func52, Tryz.ntmps52
  go_wp2
  iterate 4 (go_quiet (fail); go_wp2_with fail)
  refine (ufail_any _ v _ c xs _ fa 2 p (H.out.drewN _)).mono ?_
  rintro r w1 ⟨rfl, hR, hC⟩
  go_wp2
  go_ret
  exact ⟨rfl, hR, ((Chg.refl _ _).drewN _).trans hC⟩
end
section
open Go.RowKit

theorem dv_head (xs : List UInt8) (p : Nat) : ∀ k, p + 1 + (k + 1) ≤ xs.length → bt xs (p + 1) * 256 ^ k ≤ dv xs p (k + 1) ∧ dv xs p (k + 1) < (bt xs (p + 1) + 1) * 256 ^ k
  | 0, h => by
    have := dv_succ xs p 0 (by omega)
    rw [dv_zero, Nat.add_zero] at this
    rw [this, Nat.add_zero]
    omega
  | k + 1, h => by
    have ih := dv_head xs p k (by omega)
    have e := dv_succ xs p (k + 1) (by omega)
    have hb := bt_lt xs (p + 1 + (k + 1))
    rw [e, Nat.pow_succ, ← Nat.mul_assoc, ← Nat.mul_assoc]
    omega
theorem dv_big (xs : List UInt8) (p : Nat) (h : p + 1 + 8 ≤ xs.length) : 4611686018427387903 < dv xs p 8 ↔ 63 < bt xs (p + 1) := by
  have := dv_head xs p 7 h
  have e : 256 ^ 7 = 72057594037927936 := by decide
  rw [e, show (7 + 1 : Nat) = 8 from rfl] at this
  omega
theorem dv_small (xs : List UInt8) (p n : Nat) (h : p + 1 + n ≤ xs.length) (hn : n < 8) : dv xs p n ≤ 4611686018427387903 := by
  have h1 := dv_lt xs p n h
  have h2 : 256 ^ n ≤ 256 ^ 7 := Nat.pow_le_pow_right (by omega) (by omega)
  have e : 256 ^ 7 = 72057594037927936 := by decide
  omega
theorem dv_mono (xs : List UInt8) (p : Nat) : ∀ n j, j ≤ n → p + 1 + n ≤ xs.length → dv xs p j ≤ dv xs p n
  | 0, j, hj, _ => by
    obtain rfl : j = 0 := by omega
    exact Nat.le_refl _
  | n + 1, j, hj, h => by
    by_cases e : j = n + 1
    · subst e; exact Nat.le_refl _
    · have ih := dv_mono xs p n j (by omega) (by omega)
      have := dv_succ xs p n (by omega)
      omega

theorem URdr.step {w : World} {v : Nat} {A : Option Addr} {c : Nat} {xs : List UInt8} {p : Nat} {fe fa : Int} (h : URdr w v A c xs p fe fa) (n q : Nat) :
    URdr ((w.drewN n).setCell ⟨v, 1, none⟩ (.int .i64 q)) v A c xs q fe fa ∧ Chg [v] w ((w.drewN n).setCell ⟨v, 1, none⟩ (.int .i64 q)) :=
  ⟨((h.drewN n).place q).1, ((Chg.refl _ _).drewN n).trans ((h.drewN n).place q).2⟩

set_option maxHeartbeats 400000 in
theorem unum_big (w : World) (v : Nat) (A : Option Addr) (c : Nat) (xs : List UInt8) (p : Nat) (fa low high : Int) (h : URdr w v A c xs p 0 fa) (hl : xs.length ≤ 140737488351232) (h8 : bt xs p = 8) (hs : p + 1 + 8 ≤ xs.length) (hz : 63 < bt xs (p + 1)) :
    Calls Tryz.prog 52 #[.pointer (some ⟨v, 0, none⟩), .int .i64 low, .int .i64 high] w (UNumPost w v A c xs (0, p, 5, p)) := by
  obtain ⟨k0, k1, k2, k3, f⟩ := h.cells
  have H := Lib.hid h
  obtain ⟨g, o, rfl, hc⟩ := h.2.1.from (by omega)
  have hcp : w.cell? ⟨g, o + p, none⟩ = some (.int .u8 (bt xs p : Int)) := hc p (by omega)
  rw [h8] at hcp
  have hcz : w.cell? ⟨g, o + (p + 1), none⟩ = some (.int .u8 (bt xs (p + 1) : Int)) := hc (p + 1) (by omega)
  have hz0 : ((bt xs (p + 1) : Int) == 0) = false := by simp only [beq_eq_false_iff_ne, ne_eq]; omega
  have hbb := bt_lt xs (p + 1)
  clear h f hc
  go_enter Tryz.func52, Tryz.ntmps52
  go_wp2
  iterate 5 (go_quiet (fail); go_wp2_with fail)
  refine (ufail_any _ v _ c xs _ fa 5 p (H.out.drewN _)).mono ?_
  rintro r w1 ⟨rfl, hR, hC⟩
  go_wp2
  go_ret
  exact ⟨rfl, hR, ((Chg.refl _ _).drewN _).trans hC⟩

set_option maxRecDepth 20000 in
set_option maxHeartbeats 400000 in
theorem unum_none (w : World) (v : Nat) (A : Option Addr) (c : Nat) (xs : List UInt8) (p : Nat) (fa low high : Int) (h : URdr w v A c xs p 0 fa) (hp : p < xs.length) (hl : xs.length ≤ 140737488351232) (h8 : bt xs p = 0) :
    Calls Tryz.prog 52 #[.pointer (some ⟨v, 0, none⟩), .int .i64 low, .int .i64 high] w (UNumPost w v A c xs (if 0 < low ∨ high < 0 then (0, p, 5, p) else (0, p + 1, 0, fa))) := by
  obtain ⟨k0, k1, k2, k3, f⟩ := h.cells
  have f1 := f 1
  have H := Lib.hid h
  obtain ⟨g, o, rfl, hc⟩ := h.2.1.from (by omega)
  have hcp : w.cell? ⟨g, o + p, none⟩ = some (.int .u8 (bt xs p : Int)) := hc p (by omega)
  rw [h8] at hcp
  clear h f hc
  by_cases hr : 0 < low ∨ high < 0
  · rw [if_pos hr]
    have hr' : 0 < low ∨ low ≤ 0 ∧ high < 0 := by omega
    clear hr
    rcases hr' with hr | ⟨hr, hr2⟩
    all_goals
      go_enter Tryz.func52, Tryz.ntmps52
      go_wp2
      iterate 5 (go_quiet (fail); go_wp2)
      refine wp_loop_rounds 1 ?_
      rw [rounds_succ]
      go_wp2_with fail
      refine (ufail_any _ v _ c xs _ fa 5 p (H.out.drewN _)).mono ?_
      rintro r w1 ⟨rfl, hR, hC⟩
      go_wp2
      go_ret
      exact ⟨rfl, hR, ((Chg.refl _ _).drewN _).trans hC⟩
  · rw [if_neg hr]
    have hr1 : low ≤ 0 := by omega
    have hr2 : 0 ≤ high := by omega
    clear hr
    go_enter Tryz.func52, Tryz.ntmps52
    go_wp2
    iterate 5 (go_quiet (fail); go_wp2)
    refine wp_loop_rounds 1 ?_
    rw [rounds_succ]
    go_wp2
    go_ret
    exact ⟨rfl, H.out.step _ (p + 1)⟩

set_option maxRecDepth 20000 in
set_option maxHeartbeats 1000000 in
theorem unum_digits (w : World) (v : Nat) (A : Option Addr) (c : Nat) (xs : List UInt8) (p : Nat) (fa low high : Int) (h : URdr w v A c xs p 0 fa) (hl : xs.length ≤ 140737488351232) (h0 : 0 < bt xs p) (h8 : bt xs p ≤ 8) (hs : p + 1 + bt xs p ≤ xs.length) (hz : bt xs (p + 1) ≠ 0) (hv : dv xs p (bt xs p) ≤ 4611686018427387903) :
    Calls Tryz.prog 52 #[.pointer (some ⟨v, 0, none⟩), .int .i64 low, .int .i64 high] w (UNumPost w v A c xs (if (dv xs p (bt xs p) : Int) < low ∨ high < (dv xs p (bt xs p) : Int) then (0, p, 5, p) else (dv xs p (bt xs p), p + 1 + bt xs p, 0, fa))) := by
  obtain ⟨k0, k1, k2, k3, f⟩ := h.cells
  have f1 := f 1
  have H := Lib.hid h
  obtain ⟨g, o, rfl, hc⟩ := h.2.1.from (by omega)
  have hcp : w.cell? ⟨g, o + p, none⟩ = some (.int .u8 (bt xs p : Int)) := hc p (by omega)
  have hcz : w.cell? ⟨g, o + (p + 1), none⟩ = some (.int .u8 (bt xs (p + 1) : Int)) := hc (p + 1) (by omega)
  have hcell : ∀ j, p + 1 + j < xs.length → w.cell? ⟨g, o + (p + 1 + j), none⟩ = some (.int .u8 (bt xs (p + 1 + j) : Int)) := fun j hj => hc (p + 1 + j) hj
  have hm : ∀ j, j ≤ bt xs p → dv xs p j ≤ 4611686018427387903 := fun j hj => Nat.le_trans (dv_mono xs p _ j hj (by omega)) hv
  have Hc := Lib.hid hcell
  have Hm := Lib.hid hm
  have hz0 : ((bt xs (p + 1) : Int) == 0) = false := by simp only [beq_eq_false_iff_ne, ne_eq]; omega
  have hbb := bt_lt xs (p + 1)
  have h63 : bt xs p < 8 ∨ bt xs p = 8 ∧ bt xs (p + 1) ≤ 63 := by
    by_cases e : bt xs p < 8
    · exact .inl e
    · have e8 : bt xs p = 8 := by omega
      have := dv_big xs p (by omega)
      rw [e8] at hv
      exact .inr ⟨e8, by omega⟩
  clear h f hc hcell hm hv hz
  generalize hR : (if (dv xs p (bt xs p) : Int) < low ∨ high < (dv xs p (bt xs p) : Int) then ((0 : Int), p, (5 : Int), (p : Int)) else ((dv xs p (bt xs p) : Int), p + 1 + bt xs p, 0, fa)) = R
  generalize hn : bt xs p = n at *
  have HR := Lib.hid hR
  clear hR
  have HN := Lib.hid hn
  clear hn
  rcases h63 with h63 | ⟨hn8, h63⟩
  all_goals
    first
    | (have h88 : ((n : Int) == 8) = true := by (subst hn8; rfl)); clear hn8
    | (have h88 : ((n : Int) == 8) = false := by (simp only [beq_eq_false_iff_ne, ne_eq]; omega)); clear h63
    go_enter Tryz.func52, Tryz.ntmps52
    go_wp2
    iterate 5 (go_quiet (fail); go_wp2)
    go_loopw [8, 9] (fun x i wr => ∃ j k : Nat, j ≤ n ∧ i = .int .i64 j ∧ x = .int .i64 (dv xs p j) ∧ wr = w.drewN k) (fun _ i _ => n - (intOf i).toNat)
    case atStart => exact ⟨0, _, by omega, rfl, by rw [dv_zero]; rfl, by simp only [World.drewN_drewN]; exact rfl⟩
    case round =>
      obtain ⟨j, k, hj, rfl, rfl, rfl⟩ := hrel
      clear hcz hz0 hbb h88
      by_cases hlt : j < n
      · have hcj := Hc.out j (by omega)
        have hbj := Hm.out (j + 1) (by omega)
        rw [dv_succ xs p j (by omega)] at hbj
        have hbb2 := bt_lt xs (p + 1 + j)
        go_wp2
        go_quiet (fail)
        go_wp2
        exact ⟨⟨j + 1, _, by omega, by go_num, by rw [dv_succ xs p j (by omega)]; go_num, rfl⟩, by simp [intOf]; omega⟩
      · obtain rfl : j = n := by omega
        have hb := Hm.out j (by omega)
        have hR := HR.out
        by_cases hlo : (dv xs p j : Int) < low
        · rw [if_pos (.inl hlo)] at hR
          subst hR
          go_wp2_with fail
          refine (ufail_any _ v _ c xs _ fa 5 p (H.out.drewN _)).mono ?_
          rintro r w1 ⟨rfl, hR, hC⟩
          go_wp2
          go_ret
          exact ⟨rfl, hR, ((Chg.refl _ _).drewN _).trans hC⟩
        · by_cases hhi : high < (dv xs p j : Int)
          · rw [if_pos (.inr hhi)] at hR
            subst hR
            go_wp2_with fail
            refine (ufail_any _ v _ c xs _ fa 5 p (H.out.drewN _)).mono ?_
            rintro r w1 ⟨rfl, hR, hC⟩
            go_wp2
            go_ret
            exact ⟨rfl, hR, ((Chg.refl _ _).drewN _).trans hC⟩
          · rw [if_neg (by omega)] at hR
            subst hR
            go_wp2
            go_ret
            exact ⟨rfl, H.out.step _ (p + 1 + j)⟩

/-- Num of the document's reader, whatever came ahead. -/
theorem unum_any (w : World) (v : Nat) (A : Option Addr) (c : Nat) (xs : List UInt8) (p : Nat) (fe fa low high : Int) (h : URdr w v A c xs p fe fa) (hp : p ≤ xs.length) (hl : xs.length ≤ 140737488351232) :
    Calls Tryz.prog 52 #[.pointer (some ⟨v, 0, none⟩), .int .i64 low, .int .i64 high] w (UNumPost w v A c xs (rNum xs p fe fa low high)) := by
  unfold rNum
  by_cases he : fe = 0
  · subst he
    simp only [ne_eq, not_true_eq_false, if_false]
    by_cases h1 : p = xs.length
    · subst h1
      simp only [numAt, if_pos]
      exact unum_end w v A c xs fa low high h
    have hlt : p < xs.length := by omega
    by_cases h2 : 8 < bt xs p
    · simp only [numAt, if_neg h1, if_pos h2]
      exact unum_arg w v A c xs p fa low high h hlt hl h2
    by_cases h3 : xs.length - (p + 1) < bt xs p
    · simp only [numAt, if_neg h1, if_neg h2, if_pos h3]
      exact unum_short w v A c xs p fa low high h hlt hl (by omega) h3
    by_cases h4 : 0 < bt xs p ∧ bt xs (p + 1) = 0
    · simp only [numAt, if_neg h1, if_neg h2, if_neg h3, if_pos h4]
      exact unum_zero w v A c xs p fa low high h hlt hl (by omega) (by omega) h4.1 h4.2
    simp only [numAt, if_neg h1, if_neg h2, if_neg h3, if_neg h4]
    by_cases h6 : bt xs p = 0
    · have := unum_none w v A c xs p fa low high h hlt hl h6
      rw [h6, dv_zero]
      by_cases hr : 0 < low ∨ high < 0
      · rw [if_pos hr] at this
        rw [if_pos (by omega)]
        exact this
      · rw [if_neg hr] at this
        rw [if_neg (by omega)]
        exact this
    · by_cases h7 : 4611686018427387903 < dv xs p (bt xs p)
      · rw [if_pos (.inl h7)]
        have h8 : bt xs p = 8 := by
          by_cases e : bt xs p < 8
          · have := dv_small xs p (bt xs p) (by omega) e
            omega
          · omega
        rw [h8] at h7
        exact unum_big w v A c xs p fa low high h hl h8 (by omega) ((dv_big xs p (by omega)).1 h7)
      · have := unum_digits w v A c xs p fa low high h hl (by omega) (by omega) (by omega) (by omega) (by omega)
        by_cases hr : (dv xs p (bt xs p) : Int) < low ∨ high < (dv xs p (bt xs p) : Int)
        · rw [if_pos hr] at this
          rw [if_pos (.inr hr)]
          exact this
        · rw [if_neg hr] at this
          rw [if_neg (by omega)]
          exact this
  · simp only [ne_eq, he, not_false_eq_true, if_true]
    exact unum_no w v A c xs p fe fa low high h he
end
section
open Go.RowKit

theorem add_twice (a : Addr) (i j : Nat) : (a.add i).add j = a.add (i + j) := by
  unfold Addr.add
  by_cases hi : i = 0 <;> by_cases hj : j = 0 <;> simp [hi, hj, Nat.add_assoc]
/-- A part of bytes. -/
theorem Bs.part {w : World} {A : Option Addr} {xs : List UInt8} (h : Bs w A xs.length xs) (q n : Nat) (hq : q + n ≤ xs.length) : Bs w (Option.map (fun x => x.add q) A) n ((xs.drop q).take n) := by
  refine ⟨by simp; omega, fun j u hj => ?_⟩
  rw [List.getElem?_take, List.getElem?_drop] at hj
  split at hj
  · obtain ⟨a, rfl, hc⟩ := h.cells (q + j) u hj
    exact ⟨a.add q, rfl, by rw [add_twice]; exact hc⟩
  · cases hj

theorem app_cell {w2 w3 : World} {o : Obj} {p : Addr} {u : Value} (hg : (w2.alloc o).drew.grownBy w3 (some w2.heap.size)) (hlt : p.block < w2.heap.size) (h : w2.cell? p = some u) : w3.cell? p = some u := by
  refine (World.cell?_of_block (w := w2) ?_).trans h
  refine (hg.block _ ?_ (by simp; omega)).trans (Below.heap_alloc _ _ _ hlt)
  show p.block < (w2.alloc o).heap.size
  rw [World.size_alloc]
  omega
/-- append of bytes, at a step of a region that draws its order. -/
theorem step_app {ops : Array Oper} {o : Oper} {a : Act} {w : World} {K : Act → World → Prop} {Q : Exit → Act → World → Prop} {E : Prop} (hgd : o.guard = none) (s x : Operand)
    (ho : o.op = .call { callee := .builtin .append, args := #[s, x], argTypes := #[22, 22] })
    {A : Option Addr} {c n : Nat} {xs : List UInt8} (hs : a.eval s = .slice A n c) (hown : OwnB w A c xs) (hn : xs.length = n) {B : Option Addr} {m d : Nat} {ys : List UInt8} (hx : a.eval x = .slice B m d) (hr : Bs w B m ys) (hlen : n + m ≤ 140737488355327)
    (h : ∀ A' c' w', OwnB w' A' c' (xs ++ ys) → w.grownBy w' (A.map (·.block)) → (A' = A ∨ A' = some ⟨w.heap.size, 0, none⟩) → K (a.put o.dst (.slice A' (n + m) c')) w') :
    if Region.wanted o (yielded ops a.tmps) = true then Oper.wp Tryz.prog o a w K Q else E := by
  have hw : Region.wanted o (yielded ops a.tmps) = true := by simp [Region.wanted, hgd]
  rw [if_pos hw]
  subst hn
  obtain ⟨A', c', w', hrun, h2, h3, h4⟩ := run_app w o.type hown (d := d) hr hlen
  unfold Oper.wp execOp
  simp only [ho, resolve, invoke, builtin, Sem.run_bind, Sem.run_pure, Result.andThen_ok, List.map_toArray, List.map_cons, List.map_nil, hs, hx, hrun]
  exact h A' c' w' h2 h3 h4

/-- What Raw of the document's reader leaves. -/
def URawPost (w : World) (v : Nat) (A : Option Addr) (c : Nat) (xs : List UInt8) (r : List UInt8 × Nat × Int × Int) (e : Ending) (w' : World) : Prop :=
  ∃ A' c', e = .returned (.slice A' r.1.length c') ∧ OwnB w' A' c' r.1 ∧ (∀ a, A' = some a → w.heap.size ≤ a.block) ∧ URdr w' v A c xs r.2.1 r.2.2.1 r.2.2.2 ∧ Chg [v] w w'

theorem URdr.back {w : World} {v : Nat} {A : Option Addr} {c : Nat} {xs : List UInt8} {p q : Nat} {fe fa : Int} (h : URdr w v A c xs q fe fa) (n : Nat) :
    URawPost w v A c xs ([], p, fe, fa) (.returned (.slice none 0 0)) ((w.drewN n).setCell ⟨v, 1, none⟩ (.int .i64 p)) :=
  ⟨none, 0, rfl, OwnB.none_ _, by simp, h.step n p⟩
theorem URawPost.after {w w1 w' : World} {v : Nat} {A : Option Addr} {c : Nat} {xs : List UInt8} {r : List UInt8 × Nat × Int × Int} {e : Ending} (hc : Chg [v] w w1) (h : URawPost w1 v A c xs r e w') : URawPost w v A c xs r e w' := by
  obtain ⟨A', c', h1, h2, h3, h4, h5⟩ := h
  have := hc.size
  exact ⟨A', c', h1, h2, fun a e => by have := h3 a e; omega, h4, hc.trans h5⟩

set_option maxRecDepth 20000 in
set_option maxHeartbeats 1000000 in
theorem uraw_failed (w : World) (v : Nat) (A : Option Addr) (c : Nat) (xs : List UInt8) (p : Nat) (fe fa most : Int) (h : URdr w v A c xs p fe fa) (hp : p ≤ xs.length) (hl : xs.length ≤ 140737488351232) (n : Int) (q : Nat) (fe' fa' : Int) (hn : rNum xs p fe fa 0 4611686018427387903 = (n, q, fe', fa')) (he : fe' ≠ 0) :
    Calls Tryz.prog 51 #[.pointer (some ⟨v, 0, none⟩), .int .i64 most] w (URawPost w v A c xs ([], p, fe', fa')) := by
  have hnum := unum_any w v A c xs p fe fa 0 4611686018427387903 h hp hl
  rw [hn] at hnum
  obtain ⟨k0, k1, k2, k3, f⟩ := h.cells
  have HN := Lib.hid hnum
  have he' : (fe' == 0) = false := by simpa using he
  have he2 : (fe' != 0) = true := by simpa using he
  clear hnum hn h f he k0 k2 k3
  go_enter Tryz.func51, Tryz.ntmps51
  go_wp2_with fail
  refine HN.out.mono ?_
  rintro r w1 ⟨rfl, hR, hC⟩
  obtain ⟨k0, k1, k2, k3, f⟩ := hR.cells
  have f1 := f 1
  have HR := Lib.hid hR
  have HC := Lib.hid hC
  clear hR hC f
  go_wp2
  go_quiet (fail)
  go_wp2
  go_ret
  exact (HR.out.back _).after HC.out

set_option maxRecDepth 20000 in
set_option maxHeartbeats 1000000 in
theorem uraw_long (w : World) (v : Nat) (A : Option Addr) (c : Nat) (xs : List UInt8) (p : Nat) (fe fa most : Int) (h : URdr w v A c xs p fe fa) (hp : p ≤ xs.length) (hl : xs.length ≤ 140737488351232) (n q : Nat) (fa' : Int) (hn : rNum xs p fe fa 0 4611686018427387903 = ((n : Int), q, 0, fa')) (hm : most < n) :
    Calls Tryz.prog 51 #[.pointer (some ⟨v, 0, none⟩), .int .i64 most] w (URawPost w v A c xs ([], p, 3, p)) := by
  have hnum := unum_any w v A c xs p fe fa 0 4611686018427387903 h hp hl
  rw [hn] at hnum
  obtain ⟨k0, k1, k2, k3, f⟩ := h.cells
  have HN := Lib.hid hnum
  clear hnum hn h f k0 k2 k3
  go_enter Tryz.func51, Tryz.ntmps51
  go_wp2_with fail
  refine HN.out.mono ?_
  rintro r w1 ⟨rfl, hR, hC⟩
  obtain ⟨k0, k1, k2, k3, f⟩ := hR.cells
  have HR := Lib.hid hR
  have HC := Lib.hid hC
  clear hR hC f
  go_wp2_with fail
  refine (ufail_any _ v _ c xs _ fa' 3 p HR.out).mono ?_
  clear k0 k1 k2 k3
  rintro r w2 ⟨rfl, hR, hC⟩
  obtain ⟨k0, k1, k2, k3, f⟩ := hR.cells
  have f1 := f 1
  have HR2 := Lib.hid hR
  have HC2 := Lib.hid (HC.out.trans hC)
  clear hR hC f
  go_wp2
  go_quiet (fail)
  go_wp2
  go_ret
  exact (HR2.out.back _).after HC2.out

set_option maxRecDepth 20000 in
set_option maxHeartbeats 1000000 in
theorem uraw_end (w : World) (v : Nat) (A : Option Addr) (c : Nat) (xs : List UInt8) (p : Nat) (fe fa most : Int) (h : URdr w v A c xs p fe fa) (hp : p ≤ xs.length) (hl : xs.length ≤ 140737488351232) (n q : Nat) (fa' : Int) (hn : rNum xs p fe fa 0 4611686018427387903 = ((n : Int), q, 0, fa')) (hq : q ≤ xs.length) (hm : n ≤ most) (hs : (xs.length : Int) - q < n) :
    Calls Tryz.prog 51 #[.pointer (some ⟨v, 0, none⟩), .int .i64 most] w (URawPost w v A c xs ([], p, 4, xs.length)) := by
  have hnum := unum_any w v A c xs p fe fa 0 4611686018427387903 h hp hl
  rw [hn] at hnum
  obtain ⟨k0, k1, k2, k3, f⟩ := h.cells
  have HN := Lib.hid hnum
  clear hnum hn h f k0 k2 k3
  go_enter Tryz.func51, Tryz.ntmps51
  go_wp2_with fail
  refine HN.out.mono ?_
  rintro r w1 ⟨rfl, hR, hC⟩
  obtain ⟨k0, k1, k2, k3, f⟩ := hR.cells
  have HR := Lib.hid hR
  have HC := Lib.hid hC
  clear hR hC f
  go_wp2
  go_quiet (fail)
  go_wp2_with fail
  refine (ufail_any _ v _ c xs _ fa' 4 xs.length (HR.out.drewN _)).mono ?_
  clear k0 k1 k2 k3
  rintro r w2 ⟨rfl, hR, hC⟩
  obtain ⟨k0, k1, k2, k3, f⟩ := hR.cells
  have f1 := f 1
  have HR2 := Lib.hid hR
  have HC2 := Lib.hid ((HC.out.drewN _).trans hC)
  clear hR hC f
  go_wp2
  go_ret
  exact (HR2.out.back 0).after HC2.out

theorem uraw_fin {w w2 w3 : World} {v : Nat} {A A' : Option Addr} {c c' : Nat} {xs ys : List UInt8} {t n : Nat} {fa' : Int} {o : Obj} (hc : Chg [v] w w2) (hr : URdr w2 v A c xs t 0 fa') (own : OwnB w3 A' c' ([] ++ ys))
    (hg : (w2.alloc o).drew.grownBy w3 (some w2.heap.size)) (hA : A' = some ⟨w2.heap.size, 0, none⟩ ∨ A' = some ⟨(w2.alloc o).heap.size, 0, none⟩) (hn : ys.length = n) : URawPost w v A c xs (ys, t, 0, fa') (.returned (.slice A' n c')) w3 := by
  subst hn
  have h3 : Chg [] w2 w3 := (((Chg.refl [] w2).alloc o).drew).grown hg (fun k e => by cases e; exact .inr (Nat.le_refl _))
  have hs := hc.size
  refine ⟨A', c', rfl, by simpa using own, ?_, hr.chg h3 (by simp) (.inr (by simp)), hc.trans (h3.mono (by simp))⟩
  rintro a rfl
  rcases hA with h | h
  · cases h; exact hs
  · cases h
    show w.heap.size ≤ (w2.alloc o).heap.size
    rw [World.size_alloc]; omega

set_option maxRecDepth 20000 in
set_option maxHeartbeats 1000000 in
theorem uraw_ok (w : World) (v : Nat) (A : Option Addr) (c : Nat) (xs : List UInt8) (p : Nat) (fe fa most : Int) (h : URdr w v A c xs p fe fa) (hp : p ≤ xs.length) (hl : xs.length ≤ 140737488351232) (n q : Nat) (fa' : Int) (hn : rNum xs p fe fa 0 4611686018427387903 = ((n : Int), q, 0, fa')) (hq : q ≤ xs.length) (hm : n ≤ most) (hs : n ≤ (xs.length : Int) - q) :
    Calls Tryz.prog 51 #[.pointer (some ⟨v, 0, none⟩), .int .i64 most] w (URawPost w v A c xs ((xs.drop q).take n, q + n, 0, fa')) := by
  have hnum := unum_any w v A c xs p fe fa 0 4611686018427387903 h hp hl
  rw [hn] at hnum
  obtain ⟨k0, k1, k2, k3, f⟩ := h.cells
  have HN := Lib.hid hnum
  clear hnum hn h f k0 k2 k3
  go_enter Tryz.func51, Tryz.ntmps51
  go_wp2_with fail
  refine HN.out.mono ?_
  rintro r w1 ⟨rfl, hR, hC⟩
  obtain ⟨k0, k1, k2, k3, f⟩ := hR.cells
  have f1 := f 1
  have HR := Lib.hid hR
  have HC := Lib.hid hC
  clear hR hC f
  go_wp2
  go_quiet (fail)
  go_wp2
  have hst := HR.out.step nq (q + n)
  have HC2 := Lib.hid (HC.out.trans hst.2)
  obtain ⟨k0', k1', k2', k3', f'⟩ := hst.1.cells
  have HR2 := Lib.hid hst.1
  clear hst k0 k1 k2 k3 f1 f' k2' k3' HR HC
  have e : (q : Int) + (n : Int) = ((q + n : Nat) : Int) := by omega
  rw [e]
  clear e
  generalize (w1.drewN nq).setCell ⟨v, 1, none⟩ (.int .i64 ((q + n : Nat) : Int)) = w2 at *
  obtain ⟨z1, z2⟩ := HR2.out.2.2.2
  have hlt := lt_of_heap HR2.out.1
  obtain ⟨t, ht⟩ : ∃ t, q + n = t := ⟨_, rfl⟩
  have y1 : (t : Int) - n = q := by omega
  have y2 : t ≤ c := by omega
  have y3 : q ≤ t := by omega
  have y4 : t - q = n := by omega
  have y5 : (t : Int) ≤ 140737488351232 := by omega
  have y6 : (n : Int) ≤ t := by omega
  have y7 : IntKind.i64.wrap (q : Int) = q := IntWalk.i64_in _ (by omega)
  rw [ht] at k1' HR2 ⊢
  have HT := Lib.hid ht
  clear ht hm hs
  have hown : OwnB (w2.alloc (.cells #[] 5)).drew (some ⟨w2.heap.size, 0, none⟩) 0 [] := (OwnB.empty w2).chg ((Chg.refl [] _).drew) (by simp)
  have hlen : 0 + n ≤ 140737488355327 := by omega
  have HO := Lib.hid hown
  have HL := Lib.hid hlen
  clear hown hlen
  by_cases hcq : c = q
  · subst hcq
    have hnil : Bs (w2.alloc (.cells #[] 5)).drew A n ((xs.drop c).take n) := by
      obtain rfl : n = 0 := by omega
      simpa using Bs.nil _ A
    have HBs := Lib.hid hnil
    clear hnil
    go_region_held3 (fun w' => w'.cell? ⟨v, 0, none⟩ = some (.slice A xs.length c) ∧ w'.cell? ⟨v, 1, none⟩ = some (.int .i64 (t : Int))) (first | go_keep | exact ⟨q0, q1⟩) ((refine step_app rfl _ _ rfl rfl HO.out rfl rfl HBs.out HL.out ?_; intro A' c' w3 own3 hg3 hA3; have q0 := app_cell hg3 hlt k0'; have q1 := app_cell hg3 hlt k1'))
    go_wp2
    go_ret
    rw [HT.out]
    exact uraw_fin HC2.out HR2.out own3 hg3 hA3 (by simp; omega)
  · have hcq2 : ¬ (q = c) := fun e => hcq e.symm
    have hbs : Bs (w2.alloc (.cells #[] 5)).drew (Option.map (fun x => x.add q) A) n ((xs.drop q).take n) := (HR2.out.2.1.part q n (by omega)).chg (((Chg.refl [] _).alloc _).drew) (by simp)
    have HBs := Lib.hid hbs
    clear hbs
    go_region_held3 (fun w' => w'.cell? ⟨v, 0, none⟩ = some (.slice A xs.length c) ∧ w'.cell? ⟨v, 1, none⟩ = some (.int .i64 (t : Int))) (first | go_keep | exact ⟨q0, q1⟩) ((refine step_app rfl _ _ rfl rfl HO.out rfl rfl HBs.out HL.out ?_; intro A' c' w3 own3 hg3 hA3; have q0 := app_cell hg3 hlt k0'; have q1 := app_cell hg3 hlt k1'))
    go_wp2
    go_ret
    rw [HT.out]
    exact uraw_fin HC2.out HR2.out own3 hg3 hA3 (by simp; omega)

/-- Raw of the document's reader, whatever came ahead. -/
theorem uraw_any (w : World) (v : Nat) (A : Option Addr) (c : Nat) (xs : List UInt8) (p : Nat) (fe fa most : Int) (h : URdr w v A c xs p fe fa) (hp : p ≤ xs.length) (hl : xs.length ≤ 140737488351232) :
    Calls Tryz.prog 51 #[.pointer (some ⟨v, 0, none⟩), .int .i64 most] w (URawPost w v A c xs (rRaw xs p fe fa most)) := by
  unfold rRaw
  by_cases he : fe = 0
  · subst he
    simp only [ne_eq, not_true_eq_false, if_false]
    cases hn : numAt xs p 0 4611686018427387903 with
    | error x =>
      obtain ⟨f, q⟩ := x
      exact uraw_failed w v A c xs p 0 fa most h hp hl 0 p f q (by simp [rNum, hn]) (by have := numAt_err hn; omega)
    | ok x =>
      obtain ⟨n, q⟩ := x
      have hok := numAt_ok hn hp
      have hr : rNum xs p 0 fa 0 4611686018427387903 = ((n : Int), q, 0, fa) := by simp [rNum, hn]
      by_cases h1 : most < n
      · simp only [if_pos h1]; exact uraw_long w v A c xs p 0 fa most h hp hl n q fa hr h1
      · by_cases h2 : (xs.length : Int) - q < n
        · simp only [if_neg h1, if_pos h2]; exact uraw_end w v A c xs p 0 fa most h hp hl n q fa hr hok.1 (by omega) h2
        · simp only [if_neg h1, if_neg h2]; exact uraw_ok w v A c xs p 0 fa most h hp hl n q fa hr hok.1 (by omega) (by omega)
  · simp only [ne_eq, he, not_false_eq_true, if_true]
    exact uraw_failed w v A c xs p fe fa most h hp hl 0 p fe fa (by simp [rNum, he]) he

/-- What Text of the document's reader leaves. -/
def UTextPost (w : World) (v : Nat) (A : Option Addr) (c : Nat) (xs : List UInt8) (r : List UInt8 × Nat × Int × Int) (e : Ending) (w' : World) : Prop :=
  e = .returned (.string (strOf r.1)) ∧ URdr w' v A c xs r.2.1 r.2.2.1 r.2.2.2 ∧ Chg [v] w w'

set_option maxHeartbeats 400000 in
theorem utext_any (w : World) (v : Nat) (A : Option Addr) (c : Nat) (xs : List UInt8) (p : Nat) (fe fa most : Int) (h : URdr w v A c xs p fe fa) (hp : p ≤ xs.length) (hl : xs.length ≤ 140737488351232) :
    Calls Tryz.prog 50 #[.pointer (some ⟨v, 0, none⟩), .int .i64 most] w (UTextPost w v A c xs (rRaw xs p fe fa most)) := by
  have hpc := uraw_any w v A c xs p fe fa most h hp hl
  generalize rRaw xs p fe fa most = r at hpc
  have HP := Lib.hid hpc
  clear hpc
  go_enter Tryz.func50, Tryz.ntmps50
  go_wp2_with (go_at_call 51; refine HP.out.mono ?_; rintro e w1 ⟨A', c', rfl, q1, q2, q3, q4⟩; have Q2 := Lib.hid q2; clear q2; have hs := run_str w1 (c := c') q1.reads)
  go_ret
  exact ⟨rfl, q3, q4⟩
end
section
open Go.RowKit

/-- The document's writer, made since w. -/
def Vs (w w' : World) (b : Nat) (xs : List UInt8) (e : Int) : Prop := ∃ g, VWr w' b g xs e ∧ w.heap.size ≤ b ∧ w.heap.size ≤ g ∧ Chg [] w w'
theorem Vs.chg {w w' : World} {b : Nat} {xs : List UInt8} {e : Int} (h : Vs w w' b xs e) : Chg [] w w' := by obtain ⟨_, _, _, _, h⟩ := h; exact h
theorem Vs.past {w w1 w2 : World} {b : Nat} {xs : List UInt8} {e : Int} (h : Vs w w1 b xs e) (hc : Chg [] w1 w2) : Vs w w2 b xs e := by
  obtain ⟨g, h1, h2, h3, h4⟩ := h
  exact ⟨g, h1.chg hc (by simp) (by simp), h2, h3, h4.trans hc⟩
theorem vs_between {w w1 w2 : World} {b g : Nat} {xs : List UInt8} {e : Int} (h2 : w.heap.size ≤ b) (h3 : w.heap.size ≤ g) (h4 : Chg [] w w1) (h : VBetween w1 w2 b g xs e) : Vs w w2 b xs e := by
  obtain ⟨g', q1, q2, q3⟩ := h
  have := h4.size
  refine ⟨g', q1, h2, by omega, h4.both q2 ?_⟩
  intro i hi
  simp at hi
  omega
/-- A writer in a new block. -/
theorem vs_new (w w1 : World) (hc : Chg [] w w1) : Vs w (w1.alloc (.cells #[.slice none 0 0, .int .i64 0] 69)) w1.heap.size [] 0 :=
  ⟨w1.heap.size, ⟨none, 0, heap_alloc_new w1 _, OwnB.none_ _, .inl ⟨rfl, rfl⟩⟩, hc.size, hc.size, hc.alloc _⟩
theorem vs_num (w w1 : World) (b : Nat) (xs : List UInt8) (e x : Int) (h : Vs w w1 b xs e) (hlen : xs.length ≤ 1048576) (hx : -9223372036854775808 ≤ x) (hx2 : x ≤ 9223372036854775807) :
    Calls Tryz.prog 40 #[.pointer (some ⟨b, 0, none⟩), .int .i64 x] w1 fun r w' => r = .returned (.tuple #[]) ∧ Vs w w' b (wNum xs e x).1 (wNum xs e x).2 := by
  obtain ⟨g, h1, h2, h3, h4⟩ := h
  exact (vnum_any w1 b g xs e x h1 hlen hx hx2).mono fun _ _ ⟨q1, q2⟩ => ⟨q1, vs_between h2 h3 h4 q2⟩
theorem vs_raw (w w1 : World) (b : Nat) (xs : List UInt8) (e : Int) (B : Option Addr) (m d : Nat) (ys : List UInt8) (h : Vs w w1 b xs e) (hlen : xs.length ≤ 1048576) (hm : m ≤ 140737488351232) (hr : Bs w B m ys) :
    Calls Tryz.prog 39 #[.pointer (some ⟨b, 0, none⟩), .slice B m d] w1 fun r w' => r = .returned (.tuple #[]) ∧ Vs w w' b (wRaw xs e ys).1 (wRaw xs e ys).2 := by
  obtain ⟨g, h1, h2, h3, h4⟩ := h
  exact (vraw_any w1 b g xs e B m d ys h1 hlen hm (hr.chg h4 (by simp))).mono fun _ _ ⟨q1, q2⟩ => ⟨q1, vs_between h2 h3 h4 q2⟩
theorem vs_text (w w1 : World) (b : Nat) (xs : List UInt8) (e : Int) (s : ByteArray) (h : Vs w w1 b xs e) (hlen : xs.length ≤ 1048576) (hm : s.size ≤ 140737488351232) :
    Calls Tryz.prog 38 #[.pointer (some ⟨b, 0, none⟩), .string s] w1 fun r w' => r = .returned (.tuple #[]) ∧ Vs w w' b (wRaw xs e s.data.toList).1 (wRaw xs e s.data.toList).2 := by
  obtain ⟨g, h1, h2, h3, h4⟩ := h
  exact (vtext_any w1 b g xs e s h1 hlen hm).mono fun _ _ ⟨q1, q2⟩ => ⟨q1, vs_between h2 h3 h4 q2⟩
theorem vs_out (w w1 : World) (b : Nat) (xs : List UInt8) (e : Int) (h : Vs w w1 b xs e) (hlen : xs.length ≤ 1048576) :
    Calls Tryz.prog 41 #[.pointer (some ⟨b, 0, none⟩)] w1 fun r w' => ∃ A c, r = .returned (.tuple #[.slice A (outs xs e).length c, .int .i64 e]) ∧ Fresh w w' A c (outs xs e) := by
  obtain ⟨g, h1, h2, h3, h4⟩ := h
  exact (vout_any w1 b g xs e h1 hlen).mono fun _ _ ⟨A, c, q1, q2⟩ => ⟨A, c, q1, q2.since h4⟩
/-- The document's reader of bytes that w has, made since w. -/
def Us (w w' : World) (v : Nat) (A : Option Addr) (c : Nat) (xs : List UInt8) (p : Nat) (fe fa : Int) : Prop := URdr w' v A c xs p fe fa ∧ w.heap.size ≤ v ∧ Chg [] w w' ∧ Bs w A xs.length xs ∧ p ≤ xs.length ∧ xs.length ≤ 140737488351232
theorem Us.chg {w w' : World} {v : Nat} {A : Option Addr} {c : Nat} {xs : List UInt8} {p : Nat} {fe fa : Int} (h : Us w w' v A c xs p fe fa) : Chg [] w w' := h.2.2.1
theorem Us.past {w w1 w2 : World} {v : Nat} {A : Option Addr} {c : Nat} {xs : List UInt8} {p : Nat} {fe fa : Int} (h : Us w w1 v A c xs p fe fa) (hc : Chg [] w1 w2) : Us w w2 v A c xs p fe fa :=
  ⟨h.1.chg hc (by simp) (.inr (by simp)), h.2.1, h.2.2.1.trans hc, h.2.2.2⟩
theorem us_open (w w1 : World) (A : Option Addr) (c : Nat) (xs : List UInt8) (hc : Chg [] w w1) (h : Bs w A xs.length xs) (hc1 : xs.length ≤ c) (hc2 : c ≤ 9223372036854775807) (hm : xs.length ≤ 140737488351232) :
    Calls Tryz.prog 49 #[.slice A xs.length c] w1 fun r w' => ∃ v, r = .returned (.pointer (some ⟨v, 0, none⟩)) ∧ Us w w' v A c xs 0 0 0 :=
  (vopen_any w1 A c xs (h.chg hc (by simp)) hc1 hc2).mono fun _ _ hh => by
    have hs := hc.size
    first
      | (obtain ⟨v, h1, h2, h3, h4⟩ := hh; exact ⟨v, h1, h2, by omega, hc.trans h3, h, by omega, hm⟩)
      | (obtain ⟨h1, h2, h3⟩ := hh; exact ⟨_, h1, h2, hs, hc.trans h3, h, by omega, hm⟩)
theorem us_num (w w1 : World) (v : Nat) (A : Option Addr) (c : Nat) (xs : List UInt8) (p : Nat) (fe fa low high : Int) (h : Us w w1 v A c xs p fe fa) :
    Calls Tryz.prog 52 #[.pointer (some ⟨v, 0, none⟩), .int .i64 low, .int .i64 high] w1 fun r w' => r = .returned (.int .i64 (rNum xs p fe fa low high).1) ∧ Us w w' v A c xs (rNum xs p fe fa low high).2.1 (rNum xs p fe fa low high).2.2.1 (rNum xs p fe fa low high).2.2.2 ∧ Chg [v] w1 w' := by
  obtain ⟨h1, h2, h3, h4, h5, h6⟩ := h
  exact (unum_any w1 v A c xs p fe fa low high h1 h5 h6).mono fun _ _ ⟨q1, q2, q3⟩ => ⟨q1, ⟨q2, h2, h3.both q3 (by simpa using h2), h4, rNum_le h5, h6⟩, q3⟩
theorem us_raw (w w1 : World) (v : Nat) (A : Option Addr) (c : Nat) (xs : List UInt8) (p : Nat) (fe fa most : Int) (h : Us w w1 v A c xs p fe fa) :
    Calls Tryz.prog 51 #[.pointer (some ⟨v, 0, none⟩), .int .i64 most] w1 fun r w' => ∃ A' c', r = .returned (.slice A' (rRaw xs p fe fa most).1.length c') ∧ OwnB w' A' c' (rRaw xs p fe fa most).1 ∧ (∀ a, A' = some a → w1.heap.size ≤ a.block) ∧ Us w w' v A c xs (rRaw xs p fe fa most).2.1 (rRaw xs p fe fa most).2.2.1 (rRaw xs p fe fa most).2.2.2 ∧ Chg [v] w1 w' := by
  obtain ⟨h1, h2, h3, h4, h5, h6⟩ := h
  exact (uraw_any w1 v A c xs p fe fa most h1 h5 h6).mono fun _ _ ⟨A', c', q1, q2, q3, q4, q5⟩ => ⟨A', c', q1, q2, q3, ⟨q4, h2, h3.both q5 (by simpa using h2), h4, (rRaw_le h5).2, h6⟩, q5⟩
theorem us_text (w w1 : World) (v : Nat) (A : Option Addr) (c : Nat) (xs : List UInt8) (p : Nat) (fe fa most : Int) (h : Us w w1 v A c xs p fe fa) :
    Calls Tryz.prog 50 #[.pointer (some ⟨v, 0, none⟩), .int .i64 most] w1 fun r w' => r = .returned (.string (strOf (rRaw xs p fe fa most).1)) ∧ Us w w' v A c xs (rRaw xs p fe fa most).2.1 (rRaw xs p fe fa most).2.2.1 (rRaw xs p fe fa most).2.2.2 ∧ Chg [v] w1 w' := by
  obtain ⟨h1, h2, h3, h4, h5, h6⟩ := h
  exact (utext_any w1 v A c xs p fe fa most h1 h5 h6).mono fun _ _ ⟨q1, q4, q5⟩ => ⟨q1, ⟨q4, h2, h3.both q5 (by simpa using h2), h4, (rRaw_le h5).2, h6⟩, q5⟩
theorem us_end (w w1 : World) (v : Nat) (A : Option Addr) (c : Nat) (xs : List UInt8) (p : Nat) (fe fa : Int) (h : Us w w1 v A c xs p fe fa) :
    Calls Tryz.prog 53 #[.pointer (some ⟨v, 0, none⟩)] w1 fun r w' => r = .returned (.agg #[.int .i64 (endR xs p fe fa).1, .int .i64 (endR xs p fe fa).2]) ∧ Chg [] w1 w' :=
  uend_any w1 v A c xs p fe fa h.1
end
end Go.Proofs.YtcnbgdplkobenaaGreatDoor
