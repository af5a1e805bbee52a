/- Two sets of dots gone through at a time: plain functions. No function of the program is named here. Spans in any order made a past, as the document does it: plain functions. No function of the program is named here. The pasts that may be, as lists of spans in order. No memory here. past: Count, Last. event.Check. The kit's SameEvent. Rows of events; the kit's SameEvents. The kit's CopyEffect. -/
import Derived.Test.YtehmchdhlhchjaaGreatDoorZepc
import Derived.Test.YtehmchdhlhchjaaGreatDoorZepb
import Derived.Deep.Cut
import Derived.Deep.RegionHeld3
import Derived.Test.YtehmchdhlhchjaaGreatDoorZepa
set_option linter.unusedSimpArgs false
set_option linter.unusedVariables false
set_option maxHeartbeats 32000000
namespace Go.Proofs.YtehmchdhlhchjaaGreatDoor
section

def hdP (l : List Sp) : Sp := l.headD (201, 0, 0)
def passP (l : List Sp) (tt : Int) : List Sp :=
 match l with
 | [] => []
 | x :: r => if tt < x.2.2 then (x.1, tt + 1, x.2.2) :: r else r
def untilP (s nx : Sp) : Sp := if s.1 = nx.1 then (s.1, s.2.1, min s.2.2 (nx.2.1 - 1)) else s
def inP (x y : Sp) : Bool := decide (x.1 < y.1 ∨ x.1 = y.1 ∧ x.2.1 ≤ y.2.1)
def pieceP (x y : Sp) : Sp := if inP x y = true ∧ inP y x = true then (x.1, x.2.1, min x.2.2 y.2.2) else if inP x y = true then untilP x y else untilP y x
def WfC (l : List Sp) : Prop := Norm l ∧ ∀ x ∈ l, 1 ≤ x.1 ∧ x.1 ≤ 200 ∧ 1 ≤ x.2.1 ∧ x.2.2 ≤ 2147483647
def Bh (p : Sp) (l : List Sp) : Prop := ∀ z ∈ l, p.1 < z.1 ∨ p.1 = z.1 ∧ p.2.2 < z.2.1
def dotsN (l : List Sp) : Nat := (l.map (fun x => (x.2.2 - x.2.1 + 1).toNat)).sum
def potP (la lb : List Sp) : Nat := 2 * (la.length + lb.length) + (if (hdP la).1 = (hdP lb).1 ∧ (hdP la).2.1 = (hdP lb).2.1 then 0 else 1)
theorem pot_le (la lb : List Sp) : potP la lb ≤ 2 * (la.length + lb.length) + 1 := by unfold potP; split <;> omega
theorem dots_cons (x : Sp) (l : List Sp) : dotsN (x :: l) = (x.2.2 - x.2.1 + 1).toNat + dotsN l := by simp [dotsN]
theorem bh_out {p : Sp} {l : List Sp} (h : Bh p l) {n s : Int} (hi : InS p n s) : ¬ Mem l n s := by
 rintro ⟨z, hz, hj⟩
 have := h z hz
 unfold InS at *
 omega
theorem bh_head {p y : Sp} {l : List Sp} (h : WfC (y :: l)) (hy : p.1 < y.1 ∨ p.1 = y.1 ∧ p.2.2 < y.2.1) : Bh p (y :: l) := by
 intro z hz
 rcases List.mem_cons.1 hz with rfl | q
 ·
  exact hy
 ·
  have a := h.1.head.2 z q
  have o := h.1.head.1
  unfold Ap SpOk at *
  omega
theorem pass_ok {x : Sp} {r : List Sp} (h : WfC (x :: r)) {tt : Int} (h1 : x.2.1 ≤ tt) (h2 : tt ≤ x.2.2) :
  WfC (passP (x :: r) tt) ∧ (∀ n s, Mem (passP (x :: r) tt) n s ↔ Mem (x :: r) n s ∧ ¬ InS (x.1, x.2.1, tt) n s) ∧ Bh (x.1, x.2.1, tt) (passP (x :: r) tt) ∧ (∀ n s, InS (x.1, x.2.1, tt) n s → Mem (x :: r) n s) ∧ dotsN (passP (x :: r) tt) < dotsN (x :: r) := by
 have hx := h.1.head
 have hb := h.2 x (by simp)
 have br : Bh x r := fun z hz => by
  have := hx.2 z hz
  unfold Ap at this
  omega
 have up : ∀ n s, InS (x.1, x.2.1, tt) n s → InS x n s := fun n s q => by unfold InS at *; simp only at q; omega
 refine ⟨?_, fun n s => ?_, ?_, fun n s q => mem_cons.2 (.inl (up n s q)), ?_⟩
 ·
  unfold passP
  simp only
  split
  ·
   rename_i hlt
   refine ⟨norm_cons (by unfold SpOk; simp only; omega) h.1.tail (fun z hz => by have := hx.2 z hz; unfold Ap at *; simp only; omega), fun z hz => ?_⟩
   rcases List.mem_cons.1 hz with rfl | q
   ·
    simp only; omega
   ·
    exact h.2 z (by simp [q])
  ·
   exact ⟨h.1.tail, fun z hz => h.2 z (by simp [hz])⟩
 ·
  unfold passP
  simp only
  split
  ·
   rename_i hlt
   rw [mem_cons, mem_cons]
   constructor
   ·
    rintro (q | q)
    ·
     exact ⟨.inl (by unfold InS at *; simp only at q; omega), by unfold InS at *; simp only at q ⊢; omega⟩
    ·
     exact ⟨.inr q, fun z => bh_out br (up n s z) q⟩
   ·
    rintro ⟨q | q, z⟩
    ·
     exact .inl (by unfold InS at *; simp only at z ⊢; omega)
    ·
     exact .inr q
  ·
   rename_i hlt
   have e : tt = x.2.2 := by omega
   subst e
   rw [mem_cons]
   constructor
   ·
    intro q
    exact ⟨.inr q, fun z => bh_out br z q⟩
   ·
    rintro ⟨q | q, z⟩
    ·
     exact absurd q z
    ·
     exact q
 ·
  unfold passP
  simp only
  intro z hz
  split at hz
  ·
   rcases List.mem_cons.1 hz with rfl | q
   ·
    exact .inr ⟨rfl, by simp only; omega⟩
   ·
    have := br z q; simp only; omega
  ·
   have := br z hz; simp only; omega
 ·
  unfold passP
  simp only
  have o := hx.1
  unfold SpOk at o
  split
  ·
   rw [dots_cons, dots_cons]; simp only; omega
  ·
   rw [dots_cons]; omega
theorem pass_len (x : Sp) (r : List Sp) (tt : Int) : (passP (x :: r) tt).length = if tt < x.2.2 then r.length + 1 else r.length := by unfold passP; simp only; split <;> simp
theorem hd_nil : hdP [] = (201, 0, 0) := rfl
theorem hd_cons (x : Sp) (l : List Sp) : hdP (x :: l) = x := rfl
def leftP (l : List Sp) (i : Bool) (tt : Int) : List Sp := if i = true then passP l tt else l
structure StepOk (la lb : List Sp) (p : Sp) (ia ib : Bool) (la' lb' : List Sp) : Prop where
 ok : SpOk p ∧ 1 ≤ p.1 ∧ p.1 ≤ 200 ∧ 1 ≤ p.2.1 ∧ p.2.2 ≤ 2147483647
 wa : WfC la'
 wb : WfC lb'
 ina : ∀ n s, InS p n s → (Mem la n s ↔ ia = true)
 inb : ∀ n s, InS p n s → (Mem lb n s ↔ ib = true)
 ma : ∀ n s, Mem la' n s ↔ Mem la n s ∧ ¬ InS p n s
 mb : ∀ n s, Mem lb' n s ↔ Mem lb n s ∧ ¬ InS p n s
 ba : Bh p la'
 bb : Bh p lb'
 dec : dotsN la' + dotsN lb' < dotsN la + dotsN lb
 pot : potP la' lb' < potP la lb
 sub : (∃ z ∈ la, z.1 = p.1 ∧ z.2.1 ≤ p.2.1 ∧ p.2.2 ≤ z.2.2) ∨ ∃ z ∈ lb, z.1 = p.1 ∧ z.2.1 ≤ p.2.1 ∧ p.2.2 ≤ z.2.2
theorem pot_comm (la lb : List Sp) : potP la lb = potP lb la := by
 unfold potP
 have e : ((hdP la).1 = (hdP lb).1 ∧ (hdP la).2.1 = (hdP lb).2.1) = ((hdP lb).1 = (hdP la).1 ∧ (hdP lb).2.1 = (hdP la).2.1) := propext ⟨fun h => ⟨h.1.symm, h.2.symm⟩, fun h => ⟨h.1.symm, h.2.symm⟩⟩
 simp only [e, Nat.add_comm la.length]
theorem StepOk.swap {la lb : List Sp} {p : Sp} {ia ib : Bool} {la' lb' : List Sp} (h : StepOk la lb p ia ib la' lb') : StepOk lb la p ib ia lb' la' :=
 ⟨h.ok, h.wb, h.wa, h.inb, h.ina, h.mb, h.ma, h.bb, h.ba, by have := h.dec; omega, by rw [pot_comm, pot_comm lb]; exact h.pot, h.sub.symm⟩
theorem step_both {x y : Sp} {xs ys : List Sp} (ha : WfC (x :: xs)) (hb : WfC (y :: ys)) (e1 : x.1 = y.1) (e2 : x.2.1 = y.2.1) :
  StepOk (x :: xs) (y :: ys) (x.1, x.2.1, min x.2.2 y.2.2) true true (passP (x :: xs) (min x.2.2 y.2.2)) (passP (y :: ys) (min x.2.2 y.2.2)) := by
 have ox := ha.1.head.1
 have oy := hb.1.head.1
 have bx := ha.2 x (by simp)
 unfold SpOk at ox oy
 obtain ⟨a1, a2, a3, a4, a5⟩ := pass_ok ha (tt := min x.2.2 y.2.2) (by omega) (by omega)
 obtain ⟨b1, b2, b3, b4, b5⟩ := pass_ok hb (tt := min x.2.2 y.2.2) (by omega) (by omega)
 have PB : potP (passP (x :: xs) (min x.2.2 y.2.2)) (passP (y :: ys) (min x.2.2 y.2.2)) < potP (x :: xs) (y :: ys) := by
  have e0 : potP (x :: xs) (y :: ys) = 2 * (xs.length + 1 + (ys.length + 1)) := by unfold potP; rw [hd_cons, hd_cons, if_pos ⟨e1, e2⟩]; rfl
  refine Nat.lt_of_le_of_lt (pot_le _ _) ?_
  rw [e0, pass_len, pass_len]
  split <;> split <;> omega
 rw [← e1, ← e2] at b2 b3 b4
 exact ⟨⟨by unfold SpOk; simp only; omega, bx.1, bx.2.1, bx.2.2.1, by simp only; omega⟩, a1, b1, fun n s q => ⟨fun _ => rfl, fun _ => a4 n s q⟩, fun n s q => ⟨fun _ => rfl, fun _ => b4 n s q⟩, a2, b2, a3, b3, by omega, PB, .inl ⟨x, by simp, rfl, Int.le_refl _, by simp only; omega⟩⟩
theorem step_one {x : Sp} {xs lb : List Sp} (ha : WfC (x :: xs)) (hb : WfC lb) (tt : Int) (h1 : x.2.1 ≤ tt) (h2 : tt ≤ x.2.2) (hl : Bh (x.1, x.2.1, tt) lb) (hu : ¬ (x.1 = (hdP lb).1 ∧ x.2.1 = (hdP lb).2.1)) (hal : tt = x.2.2 ∨ x.1 = (hdP lb).1 ∧ tt + 1 = (hdP lb).2.1) : StepOk (x :: xs) lb (x.1, x.2.1, tt) true false (passP (x :: xs) tt) lb := by
 have bx := ha.2 x (by simp)
 obtain ⟨a1, a2, a3, a4, a5⟩ := pass_ok ha h1 h2
 have PB : potP (passP (x :: xs) tt) lb < potP (x :: xs) lb := by
  have e0 : potP (x :: xs) lb = 2 * (xs.length + 1 + lb.length) + 1 := by unfold potP; rw [hd_cons, if_neg hu]; rfl
  rw [e0]
  by_cases hlt : tt < x.2.2
  ·
   have hp : passP (x :: xs) tt = (x.1, tt + 1, x.2.2) :: xs := by unfold passP; simp only; rw [if_pos hlt]
   rw [hp]
   unfold potP
   rw [hd_cons, if_pos (by rcases hal with h | h; exact absurd h (by omega); exact h)]
   simp only [List.length_cons]
   omega
  ·
   refine Nat.lt_of_le_of_lt (pot_le _ _) ?_
   rw [pass_len, if_neg hlt]
   omega
 exact ⟨⟨by unfold SpOk; exact h1, bx.1, bx.2.1, bx.2.2.1, by simp only; omega⟩, a1, hb, fun n s q => ⟨fun _ => rfl, fun _ => a4 n s q⟩, fun n s q => ⟨fun z => absurd z (bh_out hl q), fun z => absurd z (by simp)⟩, a2, fun n s => ⟨fun z => ⟨z, fun q => bh_out hl q z⟩, fun z => z.1⟩, a3, hl, by omega, PB, .inl ⟨x, by simp, rfl, Int.le_refl _, h2⟩⟩
theorem piece_one {x y : Sp} (h : inP x y = true) (h' : inP y x = false) : pieceP x y = (x.1, x.2.1, if x.1 = y.1 then min x.2.2 (y.2.1 - 1) else x.2.2) := by
 unfold pieceP
 rw [if_neg (by simp [h']), if_pos h]
 unfold untilP
 split <;> rfl
theorem piece_other {x y : Sp} (h : inP x y = false) (h' : inP y x = true) : pieceP x y = pieceP y x := by
 unfold pieceP
 rw [if_neg (by simp [h]), if_neg (by simp [h]), if_neg (by simp [h]), if_pos h']
theorem step_first {x : Sp} {xs lb : List Sp} (ha : WfC (x :: xs)) (hb : WfC lb) (h : inP x (hdP lb) = true) (h' : inP (hdP lb) x = false) :
  StepOk (x :: xs) lb (pieceP x (hdP lb)) true false (passP (x :: xs) (pieceP x (hdP lb)).2.2) lb := by
 rw [piece_one h h']
 have ox := ha.1.head.1
 have bx := ha.2 x (by simp)
 unfold SpOk at ox
 simp only [inP, decide_eq_true_eq, decide_eq_false_iff_not] at h h'
 cases lb with
 | nil =>
  rw [hd_nil] at *
  rw [if_neg (by simp only; omega)]
  exact step_one ha hb _ ox (Int.le_refl _) (fun z hz => absurd hz (by simp)) (by rw [hd_nil]; simp only; omega) (.inl rfl)
 | cons y ys =>
  rw [hd_cons] at *
  refine step_one ha hb _ ?_ ?_ (bh_head hb ?_) (by rw [hd_cons]; omega) (by rw [hd_cons]; split <;> omega)
  ·
   split <;> omega
  ·
   split <;> omega
  ·
   simp only
   split <;> omega
theorem step_ok {la lb : List Sp} (ha : WfC la) (hb : WfC lb) (hne : la ≠ [] ∨ lb ≠ []) :
  StepOk la lb (pieceP (hdP la) (hdP lb)) (inP (hdP la) (hdP lb)) (inP (hdP lb) (hdP la)) (leftP la (inP (hdP la) (hdP lb)) (pieceP (hdP la) (hdP lb)).2.2) (leftP lb (inP (hdP lb) (hdP la)) (pieceP (hdP la) (hdP lb)).2.2) := by
 have tri : inP (hdP la) (hdP lb) = true ∨ inP (hdP lb) (hdP la) = true := by
  simp only [inP, decide_eq_true_eq]; omega
 cases h1 : inP (hdP la) (hdP lb) with
 | true =>
  cases h2 : inP (hdP lb) (hdP la) with
  | true =>
   have q1 := h1
   have q2 := h2
   simp only [inP, decide_eq_true_eq] at q1 q2
   cases la with
   | nil =>
    cases lb with
    | nil => exact absurd rfl (hne.elim id id)
    | cons y ys => have := hb.2 y (by simp); rw [hd_nil, hd_cons] at q1 q2; simp only at q1 q2; omega
   | cons x xs =>
    cases lb with
    | nil => have := ha.2 x (by simp); rw [hd_nil, hd_cons] at q1 q2; simp only at q1 q2; omega
    | cons y ys =>
     rw [hd_cons, hd_cons] at *
     have e : pieceP x y = (x.1, x.2.1, min x.2.2 y.2.2) := by unfold pieceP; rw [if_pos ⟨h1, h2⟩]
     rw [e]
     exact step_both ha hb (by omega) (by omega)
  | false =>
   cases la with
   | nil =>
    have q1 := h1
    have q2 := h2
    simp only [inP, decide_eq_true_eq, decide_eq_false_iff_not] at q1 q2
    cases lb with
    | nil => exact absurd rfl (hne.elim id id)
    | cons y ys => have := hb.2 y (by simp); rw [hd_nil, hd_cons] at q1 q2; simp only at q1 q2; omega
   | cons x xs => exact step_first ha hb h1 h2
 | false =>
  have h2 := tri.resolve_left (by simp [h1])
  rw [h2]
  cases lb with
  | nil =>
   have q1 := h1
   have q2 := h2
   simp only [inP, decide_eq_true_eq, decide_eq_false_iff_not] at q1 q2
   cases la with
   | nil => exact absurd rfl (hne.elim id id)
   | cons y ys => have := ha.2 y (by simp); rw [hd_nil, hd_cons] at q1 q2; simp only at q1 q2; omega
  | cons y ys =>
   rw [hd_cons] at *
   rw [piece_other h1 h2]
   exact (step_first hb ha h2 h1).swap
def memb (l : List Sp) (n s : Int) : Bool := decide (Mem l n s)
structure SwInv (k : Bool → Bool → Bool) (a b la lb pre : List Sp) : Prop where
 wa : WfC la
 wb : WfC lb
 ok : ∀ z ∈ pre, SpOk z
 up : pre.Pairwise Le
 ba : ∀ p ∈ pre, Bh p la
 bb : ∀ p ∈ pre, Bh p lb
 cnt : pre.length + potP la lb ≤ potP a b
 m : ∀ n s, k (memb a n s) (memb b n s) = true ↔ Mem pre n s ∨ k (memb la n s) (memb lb n s) = true
theorem SwInv.begin {k : Bool → Bool → Bool} {a b : List Sp} (ha : WfC a) (hb : WfC b) : SwInv k a b a b [] :=
 ⟨ha, hb, by simp, List.Pairwise.nil, by simp, by simp, by simp, fun n s => ⟨.inr, fun q => q.resolve_left mem_nil⟩⟩
theorem bh_mono {p : Sp} {l l' : List Sp} (hp : SpOk p) (h : Bh p l) (hn : WfC l') (hs : ∀ n s, Mem l' n s → Mem l n s) : Bh p l' := by
 intro z hz
 have oz := hn.1.1 z hz
 obtain ⟨y, hy, hi⟩ := hs z.1 z.2.1 ⟨z, hz, rfl, Int.le_refl _, oz⟩
 have := h y hy
 unfold InS SpOk at *
 omega
theorem SwInv.step {k : Bool → Bool → Bool} (hk : k false false = false) {a b la lb pre : List Sp} (h : SwInv k a b la lb pre) {p : Sp} {ia ib : Bool} {la' lb' : List Sp} (q : StepOk la lb p ia ib la' lb') : SwInv k a b la' lb' (if k ia ib = true then pre ++ [p] else pre) := by
 have core : ∀ n s, (k (memb la n s) (memb lb n s) = true) ↔ (k ia ib = true ∧ InS p n s) ∨ k (memb la' n s) (memb lb' n s) = true := by
  intro n s
  have ma := q.ma n s
  have mb := q.mb n s
  by_cases hi : InS p n s
  ·
   have ea : memb la n s = ia := by
    have := q.ina n s hi
    unfold memb
    cases ia <;> simp_all
   have eb : memb lb n s = ib := by
    have := q.inb n s hi
    unfold memb
    cases ib <;> simp_all
   have ea' : memb la' n s = false := by unfold memb; simp [ma, hi]
   have eb' : memb lb' n s = false := by unfold memb; simp [mb, hi]
   rw [ea, eb, ea', eb', hk]
   exact ⟨fun z => .inl ⟨z, hi⟩, fun z => z.elim (fun y => y.1) (fun y => absurd y (by simp))⟩
  ·
   have ea' : memb la' n s = memb la n s := by unfold memb; simp [ma, hi]
   have eb' : memb lb' n s = memb lb n s := by unfold memb; simp [mb, hi]
   rw [ea', eb']
   exact ⟨.inr, fun z => z.elim (fun y => absurd y.2 hi) id⟩
 have subA : ∀ n s, Mem la' n s → Mem la n s := fun n s z => ((q.ma n s).1 z).1
 have subB : ∀ n s, Mem lb' n s → Mem lb n s := fun n s z => ((q.mb n s).1 z).1
 have oldA : ∀ x ∈ pre, Bh x la' := fun x hx => bh_mono (h.ok x hx) (h.ba x hx) q.wa subA
 have oldB : ∀ x ∈ pre, Bh x lb' := fun x hx => bh_mono (h.ok x hx) (h.bb x hx) q.wb subB
 by_cases hkk : k ia ib = true
 ·
  rw [if_pos hkk]
  have le : ∀ x ∈ pre, Le x p := fun x hx => by
   have ox := h.ok x hx
   rcases q.sub with ⟨z, hz, e1, e2, e3⟩ | ⟨z, hz, e1, e2, e3⟩
   ·
    have := h.ba x hx z hz; unfold Le SpOk at *; omega
   ·
    have := h.bb x hx z hz; unfold Le SpOk at *; omega
  refine ⟨q.wa, q.wb, fun z hz => ?_, List.pairwise_append.2 ⟨h.up, by simp, fun x hx y hy => by simp at hy; subst hy; exact le x hx⟩, fun x hx => ?_, fun x hx => ?_, by have := q.pot; have := h.cnt; simp; omega, fun n s => ?_⟩
  ·
   rcases List.mem_append.1 hz with w | w
   ·
    exact h.ok z w
   ·
    simp at w; subst w; exact q.ok.1
  ·
   rcases List.mem_append.1 hx with w | w
   ·
    exact oldA x w
   ·
    simp at w; subst w; exact q.ba
  ·
   rcases List.mem_append.1 hx with w | w
   ·
    exact oldB x w
   ·
    simp at w; subst w; exact q.bb
  ·
   rw [h.m n s, core n s, mem_append, mem_one]
   constructor
   ·
    rintro (z | z | z); exact .inl (.inl z); exact .inl (.inr z.2); exact .inr z
   ·
    rintro ((z | z) | z); exact .inl z; exact .inr (.inl ⟨hkk, z⟩); exact .inr (.inr z)
 ·
  rw [if_neg hkk]
  refine ⟨q.wa, q.wb, h.ok, h.up, oldA, oldB, by have := q.pot; have := h.cnt; omega, fun n s => ?_⟩
  rw [h.m n s, core n s]
  constructor
  ·
   rintro (z | z | z); exact .inl z; exact absurd z.1 hkk; exact .inr z
  ·
   rintro (z | z); exact .inl z; exact .inr (.inr z)
theorem SwInv.done {k : Bool → Bool → Bool} (hk : k false false = false) {a b pre : List Sp} (h : SwInv k a b [] [] pre) : Norm (pre.foldl pushP []) ∧ ∀ n s, Mem (pre.foldl pushP []) n s ↔ k (memb a n s) (memb b n s) = true := by
 obtain ⟨c, d⟩ := fold_norm (zs := pre) norm_nil h.ok h.up (by simp)
 refine ⟨c, fun n s => ?_⟩
 rw [d n s, h.m n s]
 have e : memb [] n s = false := by unfold memb; simp [mem_nil]
 rw [e, hk]
 exact ⟨fun q => .inl (q.resolve_left mem_nil), fun q => .inr (q.resolve_right (by simp))⟩
end
section

def Lt3 (x y : Sp) : Prop := x.1 < y.1 ∨ x.1 = y.1 ∧ (x.2.1 < y.2.1 ∨ x.2.1 = y.2.1 ∧ x.2.2 < y.2.2)
instance (x y : Sp) : Decidable (Lt3 x y) := by unfold Lt3; exact inferInstance
def cntS (x : Sp) : List Sp → Nat
 | [] => 0
 | y :: l => if Lt3 y x then cntS x l + 1 else 0
def insS (x : Sp) (l : List Sp) : List Sp := l.take (cntS x l) ++ x :: l.drop (cntS x l)
def riseS (l : List Sp) : List Sp := l.foldl (fun r x => insS x r) []
def tidyS (l : List Sp) : List Sp := (riseS l).foldl pushP []
theorem cntS_le (x : Sp) : ∀ l, cntS x l ≤ l.length
 | [] => Nat.le_refl _
 | y :: l => by unfold cntS; split <;> have := cntS_le x l <;> simp <;> omega
theorem cntS_lt (x : Sp) : ∀ (l : List Sp) (i : Nat) (y : Sp), l[i]? = some y → i < cntS x l → Lt3 y x
 | [], i, y, h, _ => by simp at h
 | z :: l, 0, y, h, hi => by
  simp at h; subst h
  unfold cntS at hi
  split at hi
  ·
   assumption
  ·
   omega
 | z :: l, i + 1, y, h, hi => by
  unfold cntS at hi
  split at hi
  ·
   exact cntS_lt x l i y (by simpa using h) (by omega)
  ·
   omega
theorem cntS_at (x : Sp) : ∀ (l : List Sp) (y : Sp), l[cntS x l]? = some y → ¬ Lt3 y x
 | [], y, h => by simp at h
 | z :: l, y, h => by
  unfold cntS at h
  split at h
  ·
   exact cntS_at x l y (by simpa using h)
  ·
   simp at h; subst h; assumption
theorem insS_len (x : Sp) (l : List Sp) : (insS x l).length = l.length + 1 := by
 unfold insS
 have := cntS_le x l
 simp; omega
theorem insS_mem (x y : Sp) (l : List Sp) : y ∈ insS x l ↔ y = x ∨ y ∈ l := by
 unfold insS
 rw [List.mem_append, List.mem_cons]
 conv => rhs; rw [← List.take_append_drop (cntS x l) l, List.mem_append]
 constructor
 ·
  rintro (h | h | h)
  ·
   exact .inr (.inl h)
  ·
   exact .inl h
  ·
   exact .inr (.inr h)
 ·
  rintro (h | h | h)
  ·
   exact .inr (.inl h)
  ·
   exact .inl h
  ·
   exact .inr (.inr h)
def Ge3 (x y : Sp) : Prop := ¬ Lt3 y x
theorem Ge3.le {x y : Sp} (h : Ge3 x y) : Le x y := by unfold Ge3 Lt3 Le at *; omega
theorem insS_up (x : Sp) (l : List Sp) (h : l.Pairwise Ge3) : (insS x l).Pairwise Ge3 := by
 unfold insS
 have hs : (l.take (cntS x l) ++ l.drop (cntS x l)).Pairwise Ge3 := by rw [List.take_append_drop]; exact h
 rw [List.pairwise_append] at hs ⊢
 obtain ⟨a, b, c⟩ := hs
 have hd : ∀ y ∈ l.drop (cntS x l), Ge3 x y := by
  cases hdr : l.drop (cntS x l) with
  | nil => simp
  | cons z r =>
   have hz : l[cntS x l]? = some z := by
    have : (l.drop (cntS x l))[0]? = some z := by rw [hdr]; rfl
    simpa using this
   have hg : Ge3 x z := cntS_at x l z hz
   rw [hdr] at b
   intro y hy
   rcases List.mem_cons.1 hy with rfl | q
   ·
    exact hg
   ·
    have := (List.pairwise_cons.1 b).1 y q
    unfold Ge3 Lt3 at *
    omega
 have ht : ∀ y ∈ l.take (cntS x l), Lt3 y x := fun y hy => by
  obtain ⟨i, hi, rfl⟩ := List.getElem_of_mem hy
  rw [List.length_take] at hi
  rw [List.getElem_take]
  exact cntS_lt x l i _ (List.getElem?_eq_getElem (by omega)) (by omega)
 refine ⟨a, List.pairwise_cons.2 ⟨hd, b⟩, fun y hy z hz => ?_⟩
 rcases List.mem_cons.1 hz with rfl | q
 ·
  have := ht y hy
  unfold Ge3 Lt3 at *
  omega
 ·
  exact c y hy z q
theorem fold_ins : ∀ (l r : List Sp), r.Pairwise Ge3 → (l.foldl (fun r x => insS x r) r).Pairwise Ge3 ∧ (∀ y, y ∈ l.foldl (fun r x => insS x r) r ↔ y ∈ l ∨ y ∈ r) ∧ (l.foldl (fun r x => insS x r) r).length = l.length + r.length
 | [], r, h => ⟨h, by simp, by simp⟩
 | x :: l, r, h => by
  obtain ⟨a, b, c⟩ := fold_ins l (insS x r) (insS_up x r h)
  rw [List.foldl_cons]
  refine ⟨a, fun y => ?_, by rw [c, insS_len]; simp; omega⟩
  rw [b y, insS_mem, List.mem_cons]
  constructor
  ·
   rintro (q | q | q); exact .inl (.inr q); exact .inl (.inl q); exact .inr q
  ·
   rintro ((q | q) | q); exact .inr (.inl q); exact .inl q; exact .inr (.inr q)
theorem rise_props (l : List Sp) : (riseS l).Pairwise Ge3 ∧ (∀ y, y ∈ riseS l ↔ y ∈ l) ∧ (riseS l).length = l.length := by
 obtain ⟨a, b, c⟩ := fold_ins l [] List.Pairwise.nil
 exact ⟨a, fun y => by rw [show riseS l = l.foldl (fun r x => insS x r) [] from rfl, b y]; simp, by rw [show riseS l = l.foldl (fun r x => insS x r) [] from rfl, c]; simp⟩
theorem pair_le {l : List Sp} (h : l.Pairwise Ge3) : l.Pairwise Le := h.imp (fun q => q.le)
theorem mem_same {l m : List Sp} (h : ∀ y, y ∈ l ↔ y ∈ m) (n s : Int) : Mem l n s ↔ Mem m n s := ⟨fun ⟨x, hx, hi⟩ => ⟨x, (h x).1 hx, hi⟩, fun ⟨x, hx, hi⟩ => ⟨x, (h x).2 hx, hi⟩⟩
theorem tidy_norm {l : List Sp} (h : ∀ x ∈ l, SpOk x) : Norm (tidyS l) ∧ ∀ n s, Mem (tidyS l) n s ↔ Mem l n s := by
 obtain ⟨a, b, c⟩ := rise_props l
 obtain ⟨d, e⟩ := fold_norm (zs := riseS l) norm_nil (fun z hz => h z ((b z).1 hz)) (pair_le a) (by simp)
 exact ⟨d, fun n s => by rw [show tidyS l = (riseS l).foldl pushP [] from rfl, e n s, mem_same b n s]; exact ⟨fun q => q.resolve_left mem_nil, .inr⟩⟩
def B3 (x : Sp) : Prop := 1 ≤ x.1 ∧ x.1 ≤ 200 ∧ 1 ≤ x.2.1 ∧ x.2.1 ≤ x.2.2 ∧ x.2.2 ≤ 2147483647
theorem drop_set {l : List Sp} {y : Sp} (h : l.getLast? = some y) (z : Sp) : l.dropLast ++ [z] = l.set (l.length - 1) z := by
 have es := last_split h
 rw [es]
 simp
theorem push_props {out : List Sp} {z : Sp} (h : ∀ x ∈ out, B3 x) (hz : B3 z) : (∀ x ∈ pushP out z, B3 x) ∧ (pushP out z).length ≤ out.length + 1 := by
 unfold pushP
 cases hg : out.getLast? with
 | none => exact ⟨fun x hx => by simp at hx; subst hx; exact hz, by simp⟩
 | some y =>
  have es := last_split hg
  have hy : B3 y := h y (by rw [es]; simp)
  simp only
  split
  ·
   refine ⟨fun x hx => ?_, by simp⟩
   rcases List.mem_append.1 hx with q | q
   ·
    exact h x q
   ·
    simp at q; subst q; exact hz
  ·
   refine ⟨fun x hx => ?_, by rw [drop_set hg, List.length_set]; omega⟩
   rcases List.mem_append.1 hx with q | q
   ·
    exact h x (List.dropLast_subset _ q)
   ·
    simp at q; subst q; unfold B3 at *; simp only; omega
theorem fold_props : ∀ (zs out : List Sp), (∀ x ∈ out, B3 x) → (∀ x ∈ zs, B3 x) → (∀ x ∈ zs.foldl pushP out, B3 x) ∧ (zs.foldl pushP out).length ≤ out.length + zs.length
 | [], out, h, _ => ⟨h, by simp⟩
 | z :: zs, out, h, hz => by
  obtain ⟨a, b⟩ := push_props h (hz z (by simp))
  obtain ⟨c, d⟩ := fold_props zs (pushP out z) a (fun x hx => hz x (by simp [hx]))
  rw [List.foldl_cons]
  exact ⟨c, by simp; omega⟩
theorem last_at {l : List Sp} {y : Sp} (h : l[l.length - 1]? = some y) : l.getLast? = some y := by rw [List.getLast?_eq_getElem?]; exact h
theorem push_apart' {out : List Sp} {y z : Sp} (h : out[out.length - 1]? = some y) (ha : Ap y z) : pushP out z = out ++ [z] := by
 unfold pushP; rw [last_at h]; simp only; rw [if_pos ha]
theorem push_touch {out : List Sp} {y z : Sp} (h : out[out.length - 1]? = some y) (ha : ¬ Ap y z) : pushP out z = out.set (out.length - 1) (y.1, y.2.1, max y.2.2 z.2.2) := by
 unfold pushP; rw [last_at h]; simp only; rw [if_neg ha, drop_set (last_at h)]
theorem push_none (z : Sp) : pushP [] z = [z] := rfl
end
section

theorem ok_some : ∀ (l : List Sp) (y : Sp), y.2.1 ≤ y.2.2 → okFrom (some y) l = true → (∀ x ∈ l, FineS x.1 x.2.1 x.2.2 ∧ Ap y x) ∧ l.Pairwise Ap
 | [], y, _, _ => ⟨by simp, List.Pairwise.nil⟩
 | x :: l, y, hy, h => by
  simp only [okFrom, Bool.and_eq_true, decide_eq_true_eq] at h
  obtain ⟨⟨h1, h2⟩, h3⟩ := h
  have ox : x.2.1 ≤ x.2.2 := h1.2.2.2.1
  obtain ⟨a, b⟩ := ok_some l x ox h3
  have hyx : Ap y x := h2
  refine ⟨fun z hz => ?_, List.pairwise_cons.2 ⟨fun z hz => (a z hz).2, b⟩⟩
  rcases List.mem_cons.1 hz with rfl | q
  ·
   exact ⟨h1, hyx⟩
  ·
   exact ⟨(a z q).1, hyx.trans (a z q).2 ox⟩
theorem some_ok : ∀ (l : List Sp) (y : Sp), (∀ x ∈ l, FineS x.1 x.2.1 x.2.2 ∧ Ap y x) → l.Pairwise Ap → okFrom (some y) l = true
 | [], y, _, _ => rfl
 | x :: l, y, h, hp => by
  have hp' := List.pairwise_cons.1 hp
  simp only [okFrom, Bool.and_eq_true, decide_eq_true_eq]
  exact ⟨⟨(h x (by simp)).1, (h x (by simp)).2⟩, some_ok l x (fun z hz => ⟨(h z (by simp [hz])).1, hp'.1 z hz⟩) hp'.2⟩
theorem wf_of_chk {xs : List Sp} (h : chkS xs = 0) : WfC xs ∧ xs.length ≤ 4000 := by
 unfold chkS at h
 split at h
 ·
  rename_i hc
  refine ⟨?_, hc.1⟩
  cases xs with
  | nil => exact ⟨norm_nil, by simp⟩
  | cons x l =>
   have h2 := hc.2
   simp only [okFrom, Bool.and_eq_true, decide_eq_true_eq] at h2
   obtain ⟨h1, h3⟩ := h2
   have ox : x.2.1 ≤ x.2.2 := h1.2.2.2.1
   obtain ⟨a, b⟩ := ok_some l x ox h3
   have fine : ∀ z ∈ x :: l, FineS z.1 z.2.1 z.2.2 := fun z hz => by
    rcases List.mem_cons.1 hz with rfl | q
    ·
     exact h1
    ·
     exact (a z q).1
   exact ⟨⟨fun z hz => (fine z hz).2.2.2.1, List.pairwise_cons.2 ⟨fun z hz => (a z hz).2, b⟩⟩, fun z hz => by have := fine z hz; unfold FineS at this; omega⟩
 ·
  exact absurd h (by decide)
theorem chk_of_wf {xs : List Sp} (h : WfC xs) (hl : xs.length ≤ 4000) : chkS xs = 0 := by
 unfold chkS
 rw [if_pos]
 refine ⟨hl, ?_⟩
 have fine : ∀ z ∈ xs, FineS z.1 z.2.1 z.2.2 := fun z hz => by
  have := h.2 z hz
  have o := h.1.1 z hz
  unfold FineS SpOk at *
  omega
 cases xs with
 | nil => rfl
 | cons x l =>
  have hp := List.pairwise_cons.1 h.1.2
  simp only [okFrom, Bool.and_eq_true, decide_eq_true_eq]
  exact ⟨fine x (by simp), some_ok l x (fun z hz => ⟨fine z (by simp [hz]), hp.1 z hz⟩) hp.2⟩
theorem chk_two (xs : List Sp) : chkS xs = 0 ∨ chkS xs = 2 := by unfold chkS; split <;> simp
end
section
open Go.RowKit Go.Lib


def lastL (node : Int) (xs : List Sp) : Int := xs.foldl (fun n x => if x.1 = node then x.2.2 else n) 0
theorem last_snoc (node : Int) (xs : List Sp) (x : Sp) : lastL node (xs ++ [x]) = if x.1 = node then x.2.2 else lastL node xs := by simp [lastL]
set_option maxRecDepth 100000 in
theorem laststep_any (w : World) (n : Int) (x : Sp) (b : Nat) (node : Int) (hb : w.heap[b]? = some (.cells #[.int .i64 node] 3 (0, 0))) : Calls Tryz.prog 190 #[.int .i64 n, .agg #[.int .i64 x.1, .int .i64 x.2.1, .int .i64 x.2.2], .pointer (some ⟨b, 0, none⟩)] w fun e w' => e = .returned (.int .i64 (if x.1 = node then x.2.2 else n)) ∧ Chg [] w w' := by
 obtain ⟨w1, hw1, c1, b1⟩ := news1 w (.cells #[.int .i64 x.1, .int .i64 x.2.1, .int .i64 x.2.2] 81)
 have z := ce1 (c1.at_ hb (by simp))
 have W1 := h_ hw1
 have C1 := h_ c1
 have y0 := ce1 b1
 have y2 := cell_of b1 2
 simp only [gA, gY, gZ] at y2
 clear hw1 c1 b1 hb
 by_cases h : x.1 = node
 ·
  rw [if_pos h]
  have q : ((x.1 == node) : Bool) = true := by simpa using h
  clear h
  go_enter Tryz.func190, Tryz.ntmps190
  go_upto_region 1 with fail
  rw [← W1.out]
  generalize w.heap.size = g0 at *
  go_wp2; go_ret
  exact ⟨rfl, C1.out⟩
 ·
  rw [if_neg h]
  have q : ((x.1 == node) : Bool) = false := by simpa using h
  clear h
  go_enter Tryz.func190, Tryz.ntmps190
  go_upto_region 1 with fail
  rw [← W1.out]
  generalize w.heap.size = g0 at *
  go_wp2; go_ret
  exact ⟨rfl, C1.out⟩
set_option maxRecDepth 100000 in
theorem foldlast_any (w : World) (A : Option Addr) (c : Nat) (xs : List Sp) (b : Nat) (node : Int) (h : RdK spanTy w A xs.length xs) (hn : xs.length ≤ 4000) (hb : w.heap[b]? = some (.cells #[.int .i64 node] 3 (0, 0))) :
  Calls Tryz.prog 189 #[.slice A xs.length c, .int .i64 0, .func (.func 190) #[] #[.pointer (some ⟨b, 0, none⟩)]] w fun e w' => e = .returned (.int .i64 (lastL node xs)) ∧ Chg [] w w' := by
 have HX := h_ h
 have HY := h_ (hb)
 clear h hb
 go_enter Tryz.func189, Tryz.ntmps189
 go_wp2
 go_loopw [1, 11] (fun v1 v11 wr => ∃ (k : Nat), k ≤ xs.length ∧ v1 = .int .i64 (lastL node (xs.take k)) ∧ v11 = .int .i64 k ∧ Hid (Chg [] w wr)) (fun _ v11 _ => xs.length - (RowKit.intOf v11).toNat)
 case atStart => exact ⟨0, Nat.zero_le _, rfl, rfl, Chg.refl _ _⟩
 case round =>
  obtain ⟨k, hk, rfl, rfl, HI⟩ := hrel
  generalize wr = w4 at *
  clear wr
  by_cases hlt : k < xs.length
  ·
   have ex := List.getElem?_eq_getElem hlt
   obtain ⟨g, o, eA, _⟩ := HX.out.line (by omega)
   subst eA
   have R4 := HX.out.chg HI.out (by simp)
   generalize hxx : xs[k] = x at *
   obtain ⟨q0, q1, q2⟩ := spanCells R4 ex
   have i0 : (0 : Int) ≤ (k : Int) := by omega
   have i1 : (k : Int) < (xs.length : Int) := by omega
   have e2 : lastL node (xs.take (k + 1)) = if x.1 = node then x.2.2 else lastL node (xs.take k) := by rw [List.take_add_one, ex]; exact last_snoc _ _ _
   have E2 := h_ e2
   have EX := h_ ex
   have LK := h_ (show (xs.take k).length ≤ 4000 by rw [List.length_take]; omega)
   have SUB := h_ (fun y (hy : y ∈ xs.take k) => List.mem_of_mem_take hy)
   clear R4 ex e2 hxx
   generalize hm : lastL node (xs.take k) = m at *
   have HM := h_ hm
   clear hm
   obtain ⟨w5, hw5, c5, b5⟩ := news1 w4 (.cells #[.int .i64 x.1, .int .i64 x.2.1, .int .i64 x.2.2] 81)
   have W5 := h_ hw5
   have B5 := h_ b5
   have C5 := h_ (HI.out.trans c5)
   clear hw5 c5
   go_upto_region 4 with fail
   rw [← W5.out]
   generalize w4.heap.size = g4 at *
   obtain ⟨y0, y1, y2⟩ := ce3 B5.out
   go_wp2_with fail
   refine (laststep_any w5 m x b node (C5.out.at_ HY.out (by simp))).mono ?_
   rintro e w6 ⟨rfl, hcc⟩
   have CE := h_ (C5.out.trans hcc)
   clear hcc q0 q1 q2 y0 y1 y2; go_wp2; go_round
   case rel => exact ⟨k + 1, by omega, by rw [E2.out], by go_num, CE.out⟩
   case measure => simp [RowKit.intOf]; omega
  ·
   obtain rfl : k = xs.length := by omega
   rw [show xs.take xs.length = xs from List.take_length]
   go_wp2; go_ret
   exact ⟨rfl, HI.out⟩
theorem last_any (w : World) (A : Option Addr) (c : Nat) (xs : List Sp) (node : Int) (h : RdK spanTy w A xs.length xs) (hn : xs.length ≤ 140737488351232) :
  Calls Tryz.prog 152 #[.slice A xs.length c, .int .i64 node] w fun e w' => e = .returned (.int .i64 (if chkS xs = 0 then lastL node xs else 0)) ∧ Chg [] w w' := by
 have H := h_ h
 have HN := h_ hn
 clear h hn
 rcases chk_two xs with e1 | e1
 ·
  rw [if_pos e1]
  have WF := h_ (wf_of_chk e1)
  obtain ⟨w0, hw0, c0, b0⟩ := news1 w (.cells #[.int .i64 node] 3)
  have W0 := h_ hw0
  have C0 := h_ c0
  have B0 := h_ b0
  replace H := h_ (H.out.chg c0 (by simp))
  clear hw0 c0 b0
  go_enter Tryz.func152, Tryz.ntmps152
  go_wp2_with fail
  rw [← W0.out]
  generalize w.heap.size = g0 at *
  refine (pacheck_any w0 A _ c xs H.out HN.out).mono ?_
  rintro e w1 ⟨rfl, h1⟩
  rw [e1]
  have C1 := h_ h1
  clear h1; go_wp2_with fail
  refine (foldlast_any w1 A c xs g0 node (H.out.chg C1.out (by simp)) WF.out.2 (C1.out.at_ B0.out (by simp))).mono ?_
  rintro e w2 ⟨rfl, h2⟩
  have C2 := h_ (C1.out.trans h2)
  clear h2; go_wp2; go_ret
  exact ⟨rfl, C0.out.trans C2.out⟩
 ·
  rw [if_neg (by omega)]
  obtain ⟨w0, hw0, c0, b0⟩ := news1 w (.cells #[.int .i64 node] 3)
  have W0 := h_ hw0
  have C0 := h_ c0
  have B0 := h_ b0
  replace H := h_ (H.out.chg c0 (by simp))
  clear hw0 c0 b0
  go_enter Tryz.func152, Tryz.ntmps152
  go_wp2_with fail
  rw [← W0.out]
  generalize w.heap.size = g0 at *
  refine (pacheck_any w0 A _ c xs H.out HN.out).mono ?_
  rintro e w1 ⟨rfl, h1⟩
  rw [e1]
  have C1 := h_ h1
  clear h1; go_wp2; go_ret
  exact ⟨rfl, C0.out.trans C1.out⟩
end
section
open Go.RowKit Go.Lib


def evOk (e : EvP) : Nat → Prop
 | 0 => chkD e.n e.s = 0
 | 1 => checkL 6 12 e.p = true
 | 2 => chkE e.k e.m e.b.length = 0
 | 3 => chkS e.q = 0
 | _ => (if chkS e.q = 0 then lastL e.n e.q else 0) < e.s
instance (e : EvP) (i : Nat) : Decidable (evOk e i) := by unfold evOk; split <;> exact inferInstance
def EvOk (e : EvP) : Prop := evOk e 0 ∧ evOk e 1 ∧ evOk e 2 ∧ evOk e 3 ∧ evOk e 4
instance (e : EvP) : Decidable (EvOk e) := by unfold EvOk; exact inferInstance
def chkEv (e : EvP) : Int := if EvOk e then 0 else 2
theorem chkEv_no {e : EvP} (i : Nat) (hi : i ≤ 4) (h : ¬ evOk e i) : chkEv e = 2 := by
 unfold chkEv
 rw [if_neg]
 rintro ⟨h0, h1, h2, h3, h4⟩
 match i, hi with
 | 0, _ => exact h h0
 | 1, _ => exact h h1
 | 2, _ => exact h h2
 | 3, _ => exact h h3
 | 4, _ => exact h h4
theorem chkEv_yes {e : EvP} (h : ∀ i, i < 5 → evOk e i) : chkEv e = 0 := by
 unfold chkEv
 rw [if_pos ⟨h 0 (by omega), h 1 (by omega), h 2 (by omega), h 3 (by omega), h 4 (by omega)⟩]
theorem chkEv_two (e : EvP) : chkEv e = 0 ∨ chkEv e = 2 := by unfold chkEv; split <;> simp
def EvSm (e : EvP) : Prop := e.p.length ≤ 10000000 ∧ e.b.length ≤ 140737488351232 ∧ e.q.length ≤ 140737488351232
theorem below_chg8 {w w' : World} (h : Below w.heap.size w w') : Chg [] w w' := Chg.ofBelow h (by omega) []

set_option maxRecDepth 100000 in
theorem evadot_any (w : World) (g : Nat) (x : EvT) (e : EvP) (hg : w.heap[g]? = some (.cells #[.int .i64 x.n, .int .i64 x.s, .string x.p, .int .i64 x.k, .int .i64 x.m, .slice x.A x.l x.c, .slice x.B x.bl x.bc] 131 (0, 0))) (h : EvR w x e) (hs : EvSm e) :
  Calls Tryz.prog 97 #[.pointer (some ⟨g, 0, none⟩)] w fun r w' => r = .returned (.bool (decide (evOk e 0))) ∧ Chg [] w w' := by
 obtain ⟨z0, z1⟩ := ce2 hg
 clear hg
 have HS := h_ hs
 have HR := h_ h
 generalize hv : decide (evOk e 0) = v
 have HV := h_ hv
 clear hv hs; clear h
 go_enter Tryz.func97, Tryz.ntmps97
 go_wp2_with fail
 refine (dcheck_any w x.n x.s).mono ?_
 rintro r w1 ⟨rfl, hc⟩
 have C := h_ (hc)
 clear hc
 by_cases hk : evOk e 0
 ·
  obtain rfl : v = true := by rw [← HV.out]; exact decide_eq_true hk
  rw [show chkD x.n x.s = 0 by rw [HR.out.n, HR.out.s]; exact hk]
  clear hk HV; go_wp2; go_ret
  exact ⟨rfl, C.out⟩
 ·
  obtain rfl : v = false := by rw [← HV.out]; exact decide_eq_false hk
  rw [show chkD x.n x.s = 2 by rw [HR.out.n, HR.out.s]; exact chkD_odd (fun q => hk (chkD_fine q))]
  clear hk HV; go_wp2; go_ret
  exact ⟨rfl, C.out⟩

set_option maxRecDepth 100000 in
theorem evapath_any (w : World) (g : Nat) (x : EvT) (e : EvP) (hg : w.heap[g]? = some (.cells #[.int .i64 x.n, .int .i64 x.s, .string x.p, .int .i64 x.k, .int .i64 x.m, .slice x.A x.l x.c, .slice x.B x.bl x.bc] 131 (0, 0))) (h : EvR w x e) (hs : EvSm e) :
  Calls Tryz.prog 98 #[.pointer (some ⟨g, 0, none⟩)] w fun r w' => r = .returned (.bool (decide (evOk e 1))) ∧ Chg [] w w' := by
 have z2 := cell_of hg 2
 simp only [gA, gY, gZ] at z2
 clear hg
 have HS := h_ hs
 have HR := h_ h
 generalize hv : decide (evOk e 1) = v
 have HV := h_ hv
 clear hv hs
 have hp := h.p
 rw [hp] at z2
 clear hp; clear h
 go_enter Tryz.func98, Tryz.ntmps98
 go_wp2_with fail
 refine (phcheck_any w e.p (by have := HS.out.1; omega)).mono ?_
 rintro r w1 ⟨rfl, hc⟩
 have C := h_ (below_chg8 hc)
 clear hc
 by_cases hk : evOk e 1
 ·
  obtain rfl : v = true := by rw [← HV.out]; exact decide_eq_true hk
  rw [if_pos (show checkL 6 12 e.p = true from hk)]
  clear hk HV; go_wp2; go_ret
  exact ⟨rfl, C.out⟩
 ·
  obtain rfl : v = false := by rw [← HV.out]; exact decide_eq_false hk
  rw [if_neg (show ¬ checkL 6 12 e.p = true from hk)]
  clear hk HV; go_wp2; go_ret
  exact ⟨rfl, C.out⟩

set_option maxRecDepth 100000 in
theorem evaeff_any (w : World) (g : Nat) (x : EvT) (e : EvP) (hg : w.heap[g]? = some (.cells #[.int .i64 x.n, .int .i64 x.s, .string x.p, .int .i64 x.k, .int .i64 x.m, .slice x.A x.l x.c, .slice x.B x.bl x.bc] 131 (0, 0))) (h : EvR w x e) (hs : EvSm e) :
  Calls Tryz.prog 99 #[.pointer (some ⟨g, 0, none⟩)] w fun r w' => r = .returned (.bool (decide (evOk e 2))) ∧ Chg [] w w' := by
 have z3 := cell_of hg 3
 have z4 := cell_of hg 4
 have z5 := cell_of hg 5
 simp only [gA, gY, gZ] at z3 z4 z5
 clear hg
 have HS := h_ hs
 have HR := h_ h
 generalize hv : decide (evOk e 2) = v
 have HV := h_ hv
 clear hv hs; clear h
 go_enter Tryz.func99, Tryz.ntmps99
 go_wp2_with fail
 refine (check_any w x.k x.m x.A x.l x.c (by rw [HR.out.l]; exact HS.out.2.1)).mono ?_
 rintro r w1 ⟨rfl, hc⟩
 have C := h_ (hc)
 clear hc
 by_cases hk : evOk e 2
 ·
  obtain rfl : v = true := by rw [← HV.out]; exact decide_eq_true hk
  rw [show chkE x.k x.m x.l = 0 by rw [HR.out.k, HR.out.m, HR.out.l]; exact hk]
  clear hk HV; go_wp2; go_ret
  exact ⟨rfl, C.out⟩
 ·
  obtain rfl : v = false := by rw [← HV.out]; exact decide_eq_false hk
  rw [show chkE x.k x.m x.l = 2 by rw [HR.out.k, HR.out.m, HR.out.l]; unfold chkE; rw [if_neg]; exact fun q => hk (chkE_fine q)]
  clear hk HV; go_wp2; go_ret
  exact ⟨rfl, C.out⟩

set_option maxRecDepth 100000 in
theorem evapast_any (w : World) (g : Nat) (x : EvT) (e : EvP) (hg : w.heap[g]? = some (.cells #[.int .i64 x.n, .int .i64 x.s, .string x.p, .int .i64 x.k, .int .i64 x.m, .slice x.A x.l x.c, .slice x.B x.bl x.bc] 131 (0, 0))) (h : EvR w x e) (hs : EvSm e) :
  Calls Tryz.prog 100 #[.pointer (some ⟨g, 0, none⟩)] w fun r w' => r = .returned (.bool (decide (evOk e 3))) ∧ Chg [] w w' := by
 have z6 := cell_of hg 6
 simp only [gA, gY, gZ] at z6
 clear hg
 have HS := h_ hs
 have HR := h_ h
 generalize hv : decide (evOk e 3) = v
 have HV := h_ hv
 clear hv hs; clear h
 go_enter Tryz.func100, Tryz.ntmps100
 go_wp2_with fail
 refine (pacheck_any w x.B x.bl x.bc e.q HR.out.B (by rw [HR.out.bl]; exact HS.out.2.2)).mono ?_
 rintro r w1 ⟨rfl, hc⟩
 have C := h_ (hc)
 clear hc
 by_cases hk : evOk e 3
 ·
  obtain rfl : v = true := by rw [← HV.out]; exact decide_eq_true hk
  rw [show chkS e.q = 0 from hk]
  clear hk HV; go_wp2; go_ret
  exact ⟨rfl, C.out⟩
 ·
  obtain rfl : v = false := by rw [← HV.out]; exact decide_eq_false hk
  rw [show chkS e.q = 2 from (chk_two e.q).resolve_left hk]
  clear hk HV; go_wp2; go_ret
  exact ⟨rfl, C.out⟩

set_option maxRecDepth 100000 in
theorem evabehind_any (w : World) (g : Nat) (x : EvT) (e : EvP) (hg : w.heap[g]? = some (.cells #[.int .i64 x.n, .int .i64 x.s, .string x.p, .int .i64 x.k, .int .i64 x.m, .slice x.A x.l x.c, .slice x.B x.bl x.bc] 131 (0, 0))) (h : EvR w x e) (hs : EvSm e) :
  Calls Tryz.prog 101 #[.pointer (some ⟨g, 0, none⟩)] w fun r w' => r = .returned (.bool (decide (evOk e 4))) ∧ Chg [] w w' := by
 obtain ⟨z0, z1⟩ := ce2 hg
 have z6 := cell_of hg 6
 simp only [gA, gY, gZ] at z6
 clear hg
 have HS := h_ hs
 have HR := h_ h
 generalize hv : decide (evOk e 4) = v
 have HV := h_ hv
 clear hv hs
 have hn := h.n
 have hse := h.s
 have hbl := h.bl
 rw [hn] at z0
 rw [hse] at z1
 rw [hbl] at z6
 clear hn hse hbl h
 generalize hw : (if chkS e.q = 0 then lastL e.n e.q else 0) = lv
 have LV := h_ hw
 have VD : Hid (decide (lv < e.s) = v) := h_ (by rw [← HV.out, ← hw]; rfl)
 clear hw HV
 go_enter Tryz.func101, Tryz.ntmps101
 go_upto_region 1 with fail
 refine wp_region_held_drew (S := fun w' => w'.cell? ⟨g, 0, none⟩ = some (.int .i64 e.n) ∧ w'.cell? ⟨g, 1, none⟩ = some (.int .i64 e.s) ∧ w'.cell? ⟨g, 6, none⟩ = some (.slice x.B e.q.length x.bc)) (by kernel_rfl) ⟨z0, z1, z6⟩ (fun hHeld => ?_)
 have CC : Hid (Chg [] w w.drew) := h_ (Chg.refl [] w).drew
 have DX : Hid (∀ w', Chg [] w w' → w'.cell? ⟨g, 0, none⟩ = some (.int .i64 e.n) ∧ w'.cell? ⟨g, 1, none⟩ = some (.int .i64 e.s) ∧ w'.cell? ⟨g, 6, none⟩ = some (.slice x.B e.q.length x.bc)) := h_ (fun w' hc => ⟨hc.cell z0 (by simp), hc.cell z1 (by simp), hc.cell z6 (by simp)⟩)
 clear z0 z1 z6 hHeld
 generalize w.drew = wc at *
 refine sy 0 3 rfl rfl ?_ (hS := (DX.out _ CC.out))
 try simp only [Act.put, sA, s0, s1]
 refine sy 1 4 rfl rfl ?_ (hS := (DX.out _ CC.out))
 try simp only [Act.put, sA, s0, s1]
 refine sy 2 5 rfl rfl ?_ (hS := (DX.out _ CC.out))
 try simp only [Act.put, sA, s0, s1]
 refine sy 3 6 rfl rfl ?_ (hS := (DX.out _ CC.out))
 try simp only [Act.put, sA, s0, s1]
 refine sy 4 7 rfl rfl ?_ (hS := (DX.out _ CC.out)) (hy := by (intro w hSw; (try dsimp only at hSw); obtain ⟨q0, q1, q2⟩ := hSw; go_simp; try with_reducible rfl))
 try simp only [Act.put, sA, s0, s1]
 refine sy 5 8 rfl rfl ?_ (hS := (DX.out _ CC.out))
 try simp only [Act.put, sA, s0, s1]
 refine sy 6 9 rfl rfl ?_ (hS := (DX.out _ CC.out))
 try simp only [Act.put, sA, s0, s1]
 refine sy 7 10 rfl rfl ?_ (hS := (DX.out _ CC.out))
 try simp only [Act.put, sA, s0, s1]
 refine sy 8 11 rfl rfl ?_ (hS := (DX.out _ CC.out))
 try simp only [Act.put, sA, s0, s1]
 refine sy 9 12 rfl rfl ?_ (hS := (DX.out _ CC.out))
 try simp only [Act.put, sA, s0, s1]
 refine sy 10 13 rfl rfl ?_ (hS := (DX.out _ CC.out)) (hy := by (intro w hSw; (try dsimp only at hSw); obtain ⟨q0, q1, q2⟩ := hSw; go_simp; try with_reducible rfl))
 try simp only [Act.put, sA, s0, s1]
 refine sy 12 15 rfl rfl ?_ (hS := (DX.out _ CC.out))
 try simp only [Act.put, sA, s0, s1]
 refine sy 13 16 rfl rfl ?_ (hS := (DX.out _ CC.out))
 try simp only [Act.put, sA, s0, s1]
 refine sy 14 17 rfl rfl ?_ (hS := (DX.out _ CC.out))
 try simp only [Act.put, sA, s0, s1]
 refine sy 15 18 rfl rfl ?_ (hS := (DX.out _ CC.out))
 try simp only [Act.put, sA, s0, s1]
 refine sy 16 19 rfl rfl ?_ (hS := (DX.out _ CC.out))
 try simp only [Act.put, sA, s0, s1]
 refine sy 17 20 rfl rfl ?_ (hS := (DX.out _ CC.out)) (hy := by (intro w hSw; (try dsimp only at hSw); obtain ⟨q0, q1, q2⟩ := hSw; go_simp; try with_reducible rfl))
 try simp only [Act.put, sA, s0, s1]
 refine on1 11 rfl (fun K hK => ?_)
 go_simp
 refine (last_any wc x.B x.bc e.q e.n (by rw [← HR.out.bl]; exact HR.out.B.chg CC.out (by simp)) HS.out.2.2).mono ?_
 rintro r wc ⟨rfl, hc⟩
 rw [LV.out]
 replace CC := h_ (CC.out.trans hc)
 clear hc
 refine hK.out _ _ (DX.out _ CC.out) (fun hHeld => ?_)
 clear hK K; try simp only [Act.put, sA, s0, s1]
 refine sy 18 21 rfl rfl ?_ (hS := (DX.out _ CC.out))
 try simp only [Act.put, sA, s0, s1]
 refine sy 19 2 rfl rfl ?_ (hS := (DX.out _ CC.out))
 try simp only [Act.put, sA, s0, s1]
 refine wpAnyH_done (by kernel_rfl) ?_ _; clear hHeld
 rw [VD.out]
 go_wp2; go_ret
 exact ⟨rfl, CC.out⟩

set_option maxRecDepth 100000 in
theorem evcheck_any (w : World) (x : EvT) (e : EvP) (h : EvR w x e) (hs : EvSm e) :
  Calls Tryz.prog 56 #[.agg #[.int .i64 x.n, .int .i64 x.s, .string x.p, .int .i64 x.k, .int .i64 x.m, .slice x.A x.l x.c, .slice x.B x.bl x.bc]] w fun r w' => r = .returned (.int .i64 (chkEv e)) ∧ Chg [] w w' := by
 obtain ⟨w3, hw, hc, b0, b1, b2⟩ := news3 w (.cells #[.int .i64 x.n, .int .i64 x.s, .string x.p, .int .i64 x.k, .int .i64 x.m, .slice x.A x.l x.c, .slice x.B x.bl x.bc] 40) (.cells #[.int .i64 x.n, .int .i64 x.s, .string x.p, .int .i64 x.k, .int .i64 x.m, .slice x.A x.l x.c, .slice x.B x.bl x.bc] 131) (.cells #[.func (.func 97) #[.pointer (some ⟨w.heap.size + 1, 0, none⟩)] #[], .func (.func 98) #[.pointer (some ⟨w.heap.size + 1, 0, none⟩)] #[], .func (.func 99) #[.pointer (some ⟨w.heap.size + 1, 0, none⟩)] #[], .func (.func 100) #[.pointer (some ⟨w.heap.size + 1, 0, none⟩)] #[], .func (.func 101) #[.pointer (some ⟨w.heap.size + 1, 0, none⟩)] #[]] 28)
 have W3 := h_ hw
 have HR := h_ (h.chg hc)
 have C := h_ hc
 have HS := h_ hs
 generalize hv : chkEv e = v
 have HV := h_ hv
 clear hw hc h hs hv
 go_enter Tryz.func56, Tryz.ntmps56
 go_upto_region 3 with fail
 rw [← W3.out]
 generalize w.heap.size + 2 = g2 at *
 generalize w.heap.size + 1 = g1 at *
 have B1 := h_ b1
 have B2 := h_ b2
 clear b0 b1 b2 W3
 go_loopw [21] (fun v21 wr => ∃ (j : Nat), j ≤ 5 ∧ v21 = .int .i64 j ∧ Hid (∀ i, i < j → evOk e i) ∧ Hid (Chg [] w3 wr)) (fun v21 _ => 5 - (RowKit.intOf v21).toNat)
 case atStart => exact ⟨0, Nat.zero_le _, rfl, h_ (fun i hi => absurd hi (Nat.not_lt_zero _)), Chg.refl _ _⟩
 case round =>
  obtain ⟨j, hj, rfl, FN, RC⟩ := hrel
  have bb := RC.out.at_ B2.out (by simp)
  by_cases hj0 : j = 0
  ·
   subst hj0
   have z := ce1 bb
   clear bb; go_wp2_with fail
   refine (evadot_any wr g1 x e (RC.out.at_ B1.out (by simp)) (HR.out.chg RC.out) HS.out).mono ?_
   rintro r w4 ⟨rfl, hc⟩
   have C4 := h_ (RC.out.trans hc)
   clear hc z
   by_cases hk : evOk e 0
   ·
    rw [decide_eq_true hk]
    have FM : Hid (∀ i, i < 0 + 1 → evOk e i) := h_ (fun i hi => if q : i = 0 then by rw [q]; exact hk else FN.out i (by omega))
    clear hk; go_wp2; go_round
    case rel => exact ⟨0 + 1, by omega, by go_num, FM, C4.out⟩
    case measure => simp [RowKit.intOf]
   ·
    rw [decide_eq_false hk]
    obtain rfl : v = 2 := by rw [← HV.out]; exact chkEv_no 0 (by omega) hk
    clear hk HV; go_wp2; go_ret
    exact ⟨rfl, C.out.trans C4.out⟩
  by_cases hj1 : j = 1
  ·
   subst hj1
   have z := cell_of bb 1
   simp only [gA, gY, gZ] at z
   clear bb; go_wp2_with fail
   refine (evapath_any wr g1 x e (RC.out.at_ B1.out (by simp)) (HR.out.chg RC.out) HS.out).mono ?_
   rintro r w4 ⟨rfl, hc⟩
   have C4 := h_ (RC.out.trans hc)
   clear hc z
   by_cases hk : evOk e 1
   ·
    rw [decide_eq_true hk]
    have FM : Hid (∀ i, i < 1 + 1 → evOk e i) := h_ (fun i hi => if q : i = 1 then by rw [q]; exact hk else FN.out i (by omega))
    clear hk; go_wp2; go_round
    case rel => exact ⟨1 + 1, by omega, by go_num, FM, C4.out⟩
    case measure => simp [RowKit.intOf]
   ·
    rw [decide_eq_false hk]
    obtain rfl : v = 2 := by rw [← HV.out]; exact chkEv_no 1 (by omega) hk
    clear hk HV; go_wp2; go_ret
    exact ⟨rfl, C.out.trans C4.out⟩
  by_cases hj2 : j = 2
  ·
   subst hj2
   have z := cell_of bb 2
   simp only [gA, gY, gZ] at z
   clear bb; go_wp2_with fail
   refine (evaeff_any wr g1 x e (RC.out.at_ B1.out (by simp)) (HR.out.chg RC.out) HS.out).mono ?_
   rintro r w4 ⟨rfl, hc⟩
   have C4 := h_ (RC.out.trans hc)
   clear hc z
   by_cases hk : evOk e 2
   ·
    rw [decide_eq_true hk]
    have FM : Hid (∀ i, i < 2 + 1 → evOk e i) := h_ (fun i hi => if q : i = 2 then by rw [q]; exact hk else FN.out i (by omega))
    clear hk; go_wp2; go_round
    case rel => exact ⟨2 + 1, by omega, by go_num, FM, C4.out⟩
    case measure => simp [RowKit.intOf]
   ·
    rw [decide_eq_false hk]
    obtain rfl : v = 2 := by rw [← HV.out]; exact chkEv_no 2 (by omega) hk
    clear hk HV; go_wp2; go_ret
    exact ⟨rfl, C.out.trans C4.out⟩
  by_cases hj3 : j = 3
  ·
   subst hj3
   have z := cell_of bb 3
   simp only [gA, gY, gZ] at z
   clear bb; go_wp2_with fail
   refine (evapast_any wr g1 x e (RC.out.at_ B1.out (by simp)) (HR.out.chg RC.out) HS.out).mono ?_
   rintro r w4 ⟨rfl, hc⟩
   have C4 := h_ (RC.out.trans hc)
   clear hc z
   by_cases hk : evOk e 3
   ·
    rw [decide_eq_true hk]
    have FM : Hid (∀ i, i < 3 + 1 → evOk e i) := h_ (fun i hi => if q : i = 3 then by rw [q]; exact hk else FN.out i (by omega))
    clear hk; go_wp2; go_round
    case rel => exact ⟨3 + 1, by omega, by go_num, FM, C4.out⟩
    case measure => simp [RowKit.intOf]
   ·
    rw [decide_eq_false hk]
    obtain rfl : v = 2 := by rw [← HV.out]; exact chkEv_no 3 (by omega) hk
    clear hk HV; go_wp2; go_ret
    exact ⟨rfl, C.out.trans C4.out⟩
  by_cases hj4 : j = 4
  ·
   subst hj4
   have z := cell_of bb 4
   simp only [gA, gY, gZ] at z
   clear bb; go_wp2_with fail
   refine (evabehind_any wr g1 x e (RC.out.at_ B1.out (by simp)) (HR.out.chg RC.out) HS.out).mono ?_
   rintro r w4 ⟨rfl, hc⟩
   have C4 := h_ (RC.out.trans hc)
   clear hc z
   by_cases hk : evOk e 4
   ·
    rw [decide_eq_true hk]
    have FM : Hid (∀ i, i < 4 + 1 → evOk e i) := h_ (fun i hi => if q : i = 4 then by rw [q]; exact hk else FN.out i (by omega))
    clear hk; go_wp2; go_round
    case rel => exact ⟨4 + 1, by omega, by go_num, FM, C4.out⟩
    case measure => simp [RowKit.intOf]
   ·
    rw [decide_eq_false hk]
    obtain rfl : v = 2 := by rw [← HV.out]; exact chkEv_no 4 (by omega) hk
    clear hk HV; go_wp2; go_ret
    exact ⟨rfl, C.out.trans C4.out⟩
  ·
   obtain rfl : j = 5 := by omega
   obtain rfl : v = 0 := by rw [← HV.out]; exact chkEv_yes FN.out
   clear HV bb; go_wp2; go_ret
   exact ⟨rfl, C.out.trans RC.out⟩
end
section
open Go.RowKit Go.Lib


def sameP (a b : EvP) : Bool := decide (a.n = b.n ∧ a.s = b.s) && decide (a.p = b.p) && (decide (a.k = b.k ∧ a.m = b.m) && a.b == b.b) && (a.q == b.q)
def sameX (k m : Int) (xs : List UInt8) (k' m' : Int) (ys : List UInt8) : Bool := decide (k = k' ∧ m = m') && (xs == ys)
theorem strOf_ne {a b : List UInt8} (h : a ≠ b) : (strOf a == strOf b) = false := by
 cases q : strOf a == strOf b with
 | false => rfl
 | true =>
  have q2 : (a.toArray == b.toArray) = true := q
  exact absurd (by simpa using q2) h
theorem strOf_ne2 {a b : List UInt8} (h : a ≠ b) : ¬ strOf a = strOf b := fun q => h (strOf_inj q)

set_option maxRecDepth 100000 in
theorem sameeff_0 (w : World) (k m k' m' : Int) (A B : Option Addr) (n c n2 c2 : Nat) (xs ys : List UInt8) (h : Bs w A n xs) (h2 : Bs w B n2 ys) (hne : k ≠ k') :
  Calls Tryz.prog 46 #[.agg #[.int .i64 k, .int .i64 m, .slice A n c], .agg #[.int .i64 k', .int .i64 m', .slice B n2 c2]] w fun r w' => r = .returned (.bool false) ∧ Chg [] w w' := by
 obtain ⟨w2, hw, hc, b0, b1⟩ := news2 w (.cells #[.int .i64 k, .int .i64 m, .slice A n c] 38) (.cells #[.int .i64 k', .int .i64 m', .slice B n2 c2] 38)
 have W2 := h_ hw
 have C := h_ hc
 have H := h_ (h.chg hc (by simp))
 have H2 := h_ (h2.chg hc (by simp))
 have e1 : (k == k') = false := beq_eq_false_iff_ne.2 hne
 clear hne; clear hw hc h h2
 go_enter Tryz.func46, Tryz.ntmps46
 go_upto_region 1 with fail
 rw [← W2.out]
 generalize w.heap.size + 1 = g1 at *
 generalize w.heap.size = g0 at *
 obtain ⟨z0, z1, z2⟩ := ce3 b0
 obtain ⟨y0, y1, y2⟩ := ce3 b1
 clear b0 b1; go_wp2; go_ret
 exact ⟨rfl, C.out⟩
set_option maxRecDepth 100000 in
theorem sameeff_1 (w : World) (k m m' : Int) (A B : Option Addr) (n c n2 c2 : Nat) (xs ys : List UInt8) (h : Bs w A n xs) (h2 : Bs w B n2 ys) (hne : m ≠ m') :
  Calls Tryz.prog 46 #[.agg #[.int .i64 k, .int .i64 m, .slice A n c], .agg #[.int .i64 k, .int .i64 m', .slice B n2 c2]] w fun r w' => r = .returned (.bool false) ∧ Chg [] w w' := by
 obtain ⟨w2, hw, hc, b0, b1⟩ := news2 w (.cells #[.int .i64 k, .int .i64 m, .slice A n c] 38) (.cells #[.int .i64 k, .int .i64 m', .slice B n2 c2] 38)
 have W2 := h_ hw
 have C := h_ hc
 have H := h_ (h.chg hc (by simp))
 have H2 := h_ (h2.chg hc (by simp))
 have e2 : (m == m') = false := beq_eq_false_iff_ne.2 hne
 clear hne; clear hw hc h h2
 go_enter Tryz.func46, Tryz.ntmps46
 go_upto_region 1 with fail
 rw [← W2.out]
 generalize w.heap.size + 1 = g1 at *
 generalize w.heap.size = g0 at *
 obtain ⟨z0, z1, z2⟩ := ce3 b0
 obtain ⟨y0, y1, y2⟩ := ce3 b1
 clear b0 b1; go_wp2; go_ret
 exact ⟨rfl, C.out⟩
set_option maxRecDepth 100000 in
theorem sameeff_2 (w : World) (k m : Int) (A B : Option Addr) (n c n2 c2 : Nat) (xs ys : List UInt8) (h : Bs w A n xs) (h2 : Bs w B n2 ys) :
  Calls Tryz.prog 46 #[.agg #[.int .i64 k, .int .i64 m, .slice A n c], .agg #[.int .i64 k, .int .i64 m, .slice B n2 c2]] w fun r w' => r = .returned (.bool (xs == ys)) ∧ Chg [] w w' := by
 obtain ⟨w2, hw, hc, b0, b1⟩ := news2 w (.cells #[.int .i64 k, .int .i64 m, .slice A n c] 38) (.cells #[.int .i64 k, .int .i64 m, .slice B n2 c2] 38)
 have W2 := h_ hw
 have C := h_ hc
 have H := h_ (h.chg hc (by simp))
 have H2 := h_ (h2.chg hc (by simp))
 generalize hv : (xs == ys) = v
 have HV := h_ hv
 clear hv; clear hw hc h h2
 go_enter Tryz.func46, Tryz.ntmps46
 go_upto_region 1 with fail
 rw [← W2.out]
 generalize w.heap.size + 1 = g1 at *
 generalize w.heap.size = g0 at *
 obtain ⟨z0, z1, z2⟩ := ce3 b0
 obtain ⟨y0, y1, y2⟩ := ce3 b1
 clear b0 b1; go_wp2_with fail; clear z0 z1 z2 y0 y1 y2
 refine (same_any w2 A B n n2 c c2 xs ys H.out H2.out).mono ?_
 rintro r w3 ⟨rfl, rfl⟩
 rw [HV.out]
 rcases v with _ | _
 all_goals (clear HV; go_wp2; go_ret; exact ⟨rfl, C.out⟩)
theorem sameeff_any (w : World) (k m k' m' : Int) (A B : Option Addr) (n c n2 c2 : Nat) (xs ys : List UInt8) (h : Bs w A n xs) (h2 : Bs w B n2 ys) :
  Calls Tryz.prog 46 #[.agg #[.int .i64 k, .int .i64 m, .slice A n c], .agg #[.int .i64 k', .int .i64 m', .slice B n2 c2]] w fun r w' => r = .returned (.bool (sameX k m xs k' m' ys)) ∧ Chg [] w w' := by
 unfold sameX
 by_cases hk : k = k'
 ·
  subst hk
  by_cases hm : m = m'
  ·
   subst hm
   have q := sameeff_2 w k m A B n c n2 c2 xs ys h h2
   simpa using q
  ·
   have q := sameeff_1 w k m m' A B n c n2 c2 xs ys h h2 hm
   simpa [hm] using q
 ·
  have q := sameeff_0 w k m k' m' A B n c n2 c2 xs ys h h2 hk
  simpa [hk] using q

set_option maxRecDepth 100000 in
theorem sameev_0 (w : World) (un us : Int) (up : List UInt8) (uk um : Int) (uA : Option Addr) (ul uc : Nat) (uB : Option Addr) (ubl ubc : Nat) (ub : List UInt8) (uq : List (Int × Int × Int)) (vn vs : Int) (vp : List UInt8) (vk vm : Int) (vA : Option Addr) (vl vc : Nat) (vB : Option Addr) (vbl vbc : Nat) (vb : List UInt8) (vq : List (Int × Int × Int)) (ha : Bs w uA ul ub) (hq : RdK spanTy w uB ubl uq) (hb : Bs w vA vl vb) (hr : RdK spanTy w vB vbl vq) (hn : ubl ≤ 140737488351232 ∧ vbl ≤ 140737488351232) (hne : un ≠ vn) :
  Calls Tryz.prog 16 #[.agg #[.int .i64 un, .int .i64 us, .string (strOf up), .int .i64 uk, .int .i64 um, .slice uA ul uc, .slice uB ubl ubc], .agg #[.int .i64 vn, .int .i64 vs, .string (strOf vp), .int .i64 vk, .int .i64 vm, .slice vA vl vc, .slice vB vbl vbc]] w fun r w' => r = .returned (.bool false) ∧ Chg [] w w' := by
 obtain ⟨w2, hw, hc, b0, b1⟩ := news2 w (.cells #[.int .i64 un, .int .i64 us, .string (strOf up), .int .i64 uk, .int .i64 um, .slice uA ul uc, .slice uB ubl ubc] 40) (.cells #[.int .i64 vn, .int .i64 vs, .string (strOf vp), .int .i64 vk, .int .i64 vm, .slice vA vl vc, .slice vB vbl vbc] 40)
 have W2 := h_ hw
 have C := h_ hc
 have HA := h_ (ha.chg hc (by simp))
 have HB := h_ (hb.chg hc (by simp))
 have HQ := h_ (hq.chg hc (by simp))
 have HR := h_ (hr.chg hc (by simp))
 have HN := h_ hn
 have e0 : (un == vn) = false := beq_eq_false_iff_ne.2 hne
 have hN := h_ hne
 clear hne; clear hw hc ha hq hb hr hn
 go_enter Tryz.func16, Tryz.ntmps16
 go_upto_region 1 with fail
 rw [← W2.out]
 generalize w.heap.size + 1 = g1 at *
 generalize w.heap.size = g0 at *
 obtain ⟨z0, z1, z2, z3, z4, z5, z6⟩ := ce7 b0
 obtain ⟨y0, y1, y2, y3, y4, y5, y6⟩ := ce7 b1
 clear b0 b1; go_wp2; go_ret
 exact ⟨rfl, C.out⟩
set_option maxRecDepth 100000 in
theorem sameev_1 (w : World) (un us : Int) (up : List UInt8) (uk um : Int) (uA : Option Addr) (ul uc : Nat) (uB : Option Addr) (ubl ubc : Nat) (ub : List UInt8) (uq : List (Int × Int × Int)) (vs : Int) (vp : List UInt8) (vk vm : Int) (vA : Option Addr) (vl vc : Nat) (vB : Option Addr) (vbl vbc : Nat) (vb : List UInt8) (vq : List (Int × Int × Int)) (ha : Bs w uA ul ub) (hq : RdK spanTy w uB ubl uq) (hb : Bs w vA vl vb) (hr : RdK spanTy w vB vbl vq) (hn : ubl ≤ 140737488351232 ∧ vbl ≤ 140737488351232) (hne : us ≠ vs) :
  Calls Tryz.prog 16 #[.agg #[.int .i64 un, .int .i64 us, .string (strOf up), .int .i64 uk, .int .i64 um, .slice uA ul uc, .slice uB ubl ubc], .agg #[.int .i64 un, .int .i64 vs, .string (strOf vp), .int .i64 vk, .int .i64 vm, .slice vA vl vc, .slice vB vbl vbc]] w fun r w' => r = .returned (.bool false) ∧ Chg [] w w' := by
 obtain ⟨w2, hw, hc, b0, b1⟩ := news2 w (.cells #[.int .i64 un, .int .i64 us, .string (strOf up), .int .i64 uk, .int .i64 um, .slice uA ul uc, .slice uB ubl ubc] 40) (.cells #[.int .i64 un, .int .i64 vs, .string (strOf vp), .int .i64 vk, .int .i64 vm, .slice vA vl vc, .slice vB vbl vbc] 40)
 have W2 := h_ hw
 have C := h_ hc
 have HA := h_ (ha.chg hc (by simp))
 have HB := h_ (hb.chg hc (by simp))
 have HQ := h_ (hq.chg hc (by simp))
 have HR := h_ (hr.chg hc (by simp))
 have HN := h_ hn
 have e0 : (us == vs) = false := beq_eq_false_iff_ne.2 hne
 have hN := h_ hne
 clear hne; clear hw hc ha hq hb hr hn
 go_enter Tryz.func16, Tryz.ntmps16
 go_upto_region 1 with fail
 rw [← W2.out]
 generalize w.heap.size + 1 = g1 at *
 generalize w.heap.size = g0 at *
 obtain ⟨z0, z1, z2, z3, z4, z5, z6⟩ := ce7 b0
 obtain ⟨y0, y1, y2, y3, y4, y5, y6⟩ := ce7 b1
 clear b0 b1; go_wp2; go_ret
 exact ⟨rfl, C.out⟩
set_option maxRecDepth 100000 in
theorem sameev_2 (w : World) (un us : Int) (up : List UInt8) (uk um : Int) (uA : Option Addr) (ul uc : Nat) (uB : Option Addr) (ubl ubc : Nat) (ub : List UInt8) (uq : List (Int × Int × Int)) (vp : List UInt8) (vk vm : Int) (vA : Option Addr) (vl vc : Nat) (vB : Option Addr) (vbl vbc : Nat) (vb : List UInt8) (vq : List (Int × Int × Int)) (ha : Bs w uA ul ub) (hq : RdK spanTy w uB ubl uq) (hb : Bs w vA vl vb) (hr : RdK spanTy w vB vbl vq) (hn : ubl ≤ 140737488351232 ∧ vbl ≤ 140737488351232) (hne : up ≠ vp) :
  Calls Tryz.prog 16 #[.agg #[.int .i64 un, .int .i64 us, .string (strOf up), .int .i64 uk, .int .i64 um, .slice uA ul uc, .slice uB ubl ubc], .agg #[.int .i64 un, .int .i64 us, .string (strOf vp), .int .i64 vk, .int .i64 vm, .slice vA vl vc, .slice vB vbl vbc]] w fun r w' => r = .returned (.bool false) ∧ Chg [] w w' := by
 obtain ⟨w2, hw, hc, b0, b1⟩ := news2 w (.cells #[.int .i64 un, .int .i64 us, .string (strOf up), .int .i64 uk, .int .i64 um, .slice uA ul uc, .slice uB ubl ubc] 40) (.cells #[.int .i64 un, .int .i64 us, .string (strOf vp), .int .i64 vk, .int .i64 vm, .slice vA vl vc, .slice vB vbl vbc] 40)
 have W2 := h_ hw
 have C := h_ hc
 have HA := h_ (ha.chg hc (by simp))
 have HB := h_ (hb.chg hc (by simp))
 have HQ := h_ (hq.chg hc (by simp))
 have HR := h_ (hr.chg hc (by simp))
 have HN := h_ hn
 have e0 := strOf_ne hne
 have e1 := strOf_ne2 hne
 have e2 : (up == vp) = false := beq_eq_false_iff_ne.2 hne
 clear hw hc ha hq hb hr hn
 go_enter Tryz.func16, Tryz.ntmps16
 go_upto_region 1 with fail
 rw [← W2.out]
 generalize w.heap.size + 1 = g1 at *
 generalize w.heap.size = g0 at *
 obtain ⟨z0, z1, z2, z3, z4, z5, z6⟩ := ce7 b0
 obtain ⟨y0, y1, y2, y3, y4, y5, y6⟩ := ce7 b1
 clear b0 b1; go_wp2; go_ret
 exact ⟨rfl, C.out⟩
set_option maxRecDepth 100000 in
theorem sameev_3 (w : World) (un us : Int) (up : List UInt8) (uk um : Int) (uA : Option Addr) (ul uc : Nat) (uB : Option Addr) (ubl ubc : Nat) (ub : List UInt8) (uq : List (Int × Int × Int)) (vk vm : Int) (vA : Option Addr) (vl vc : Nat) (vB : Option Addr) (vbl vbc : Nat) (vb : List UInt8) (vq : List (Int × Int × Int)) (ha : Bs w uA ul ub) (hq : RdK spanTy w uB ubl uq) (hb : Bs w vA vl vb) (hr : RdK spanTy w vB vbl vq) (hn : ubl ≤ 140737488351232 ∧ vbl ≤ 140737488351232) :
  Calls Tryz.prog 16 #[.agg #[.int .i64 un, .int .i64 us, .string (strOf up), .int .i64 uk, .int .i64 um, .slice uA ul uc, .slice uB ubl ubc], .agg #[.int .i64 un, .int .i64 us, .string (strOf up), .int .i64 vk, .int .i64 vm, .slice vA vl vc, .slice vB vbl vbc]] w fun r w' => r = .returned (.bool (sameX uk um ub vk vm vb && (uq == vq))) ∧ Chg [] w w' := by
 obtain ⟨w2, hw, hc, b0, b1⟩ := news2 w (.cells #[.int .i64 un, .int .i64 us, .string (strOf up), .int .i64 uk, .int .i64 um, .slice uA ul uc, .slice uB ubl ubc] 40) (.cells #[.int .i64 un, .int .i64 us, .string (strOf up), .int .i64 vk, .int .i64 vm, .slice vA vl vc, .slice vB vbl vbc] 40)
 have W2 := h_ hw
 have C := h_ hc
 have HA := h_ (ha.chg hc (by simp))
 have HB := h_ (hb.chg hc (by simp))
 have HQ := h_ (hq.chg hc (by simp))
 have HR := h_ (hr.chg hc (by simp))
 have HN := h_ hn
 generalize hv : sameX uk um ub vk vm vb = v
 have HV := h_ hv
 clear hv
 generalize hu : (uq == vq) = u
 have HU := h_ hu
 clear hu; clear hw hc ha hq hb hr hn
 go_enter Tryz.func16, Tryz.ntmps16
 go_upto_region 1 with fail
 rw [← W2.out]
 generalize w.heap.size + 1 = g1 at *
 generalize w.heap.size = g0 at *
 obtain ⟨z0, z1, z2, z3, z4, z5, z6⟩ := ce7 b0
 obtain ⟨y0, y1, y2, y3, y4, y5, y6⟩ := ce7 b1
 clear b0 b1; go_wp2_with fail
 refine (sameeff_any _ uk um vk vm uA vA ul uc vl vc ub vb HA.out HB.out).mono ?_
 rintro r w3 ⟨rfl, h3⟩
 rw [HV.out]
 have cz6 := h3.cell z6 (by simp)
 have cy6 := h3.cell y6 (by simp)
 replace C := h_ (C.out.trans h3)
 replace HQ := h_ (HQ.out.chg h3 (by simp))
 replace HR := h_ (HR.out.chg h3 (by simp))
 clear h3 HV z0 z1 z2 z3 z4 z5 z6 y0 y1 y2 y3 y4 y5 y6
 rcases v with _ | _
 ·
  clear cz6 cy6; go_wp2; go_ret
  exact ⟨rfl, C.out⟩
 go_wp2_with fail
 refine (samespan_any _ uB vB ubl vbl ubc vbc uq vq HQ.out HR.out HN.out.1 HN.out.2).mono ?_
 rintro r w4 ⟨rfl, h4⟩
 rw [HU.out]
 replace C := h_ (C.out.trans h4)
 clear h4 cz6 cy6 HU
 rcases u with _ | _
 all_goals (go_wp2; go_ret; exact ⟨rfl, C.out⟩)
theorem sameev_raw (w : World) (un us : Int) (up : List UInt8) (uk um : Int) (uA : Option Addr) (ul uc : Nat) (uB : Option Addr) (ubl ubc : Nat) (ub : List UInt8) (uq : List (Int × Int × Int)) (vn vs : Int) (vp : List UInt8) (vk vm : Int) (vA : Option Addr) (vl vc : Nat) (vB : Option Addr) (vbl vbc : Nat) (vb : List UInt8) (vq : List (Int × Int × Int)) (ha : Bs w uA ul ub) (hq : RdK spanTy w uB ubl uq) (hb : Bs w vA vl vb) (hr : RdK spanTy w vB vbl vq) (hn : ubl ≤ 140737488351232 ∧ vbl ≤ 140737488351232) :
  Calls Tryz.prog 16 #[.agg #[.int .i64 un, .int .i64 us, .string (strOf up), .int .i64 uk, .int .i64 um, .slice uA ul uc, .slice uB ubl ubc], .agg #[.int .i64 vn, .int .i64 vs, .string (strOf vp), .int .i64 vk, .int .i64 vm, .slice vA vl vc, .slice vB vbl vbc]] w fun r w' => r = .returned (.bool (sameP ⟨un, us, up, uk, um, ub, uq⟩ ⟨vn, vs, vp, vk, vm, vb, vq⟩)) ∧ Chg [] w w' := by
 unfold sameP
 by_cases h1 : un = vn
 ·
  subst h1
  by_cases h2 : us = vs
  ·
   subst h2
   by_cases h3 : up = vp
   ·
    subst h3
    have q := sameev_3 w un us up uk um uA ul uc uB ubl ubc ub uq vk vm vA vl vc vB vbl vbc vb vq ha hq hb hr hn
    unfold sameX at q
    simpa using q
   ·
    have q := sameev_2 w un us up uk um uA ul uc uB ubl ubc ub uq vp vk vm vA vl vc vB vbl vbc vb vq ha hq hb hr hn h3
    simpa [h3] using q
  ·
   have q := sameev_1 w un us up uk um uA ul uc uB ubl ubc ub uq vs vp vk vm vA vl vc vB vbl vbc vb vq ha hq hb hr hn h2
   simpa [h2] using q
 ·
  have q := sameev_0 w un us up uk um uA ul uc uB ubl ubc ub uq vn vs vp vk vm vA vl vc vB vbl vbc vb vq ha hq hb hr hn h1
  simpa [h1] using q
theorem sameev_any (w : World) (x y : EvT) (e f : EvP) (hx : EvR w x e) (hy : EvR w y f) (hn : e.q.length ≤ 140737488351232 ∧ f.q.length ≤ 140737488351232) :
  Calls Tryz.prog 16 #[.agg #[.int .i64 x.n, .int .i64 x.s, .string x.p, .int .i64 x.k, .int .i64 x.m, .slice x.A x.l x.c, .slice x.B x.bl x.bc], .agg #[.int .i64 y.n, .int .i64 y.s, .string y.p, .int .i64 y.k, .int .i64 y.m, .slice y.A y.l y.c, .slice y.B y.bl y.bc]] w fun r w' => r = .returned (.bool (sameP e f)) ∧ Chg [] w w' := by
 have q := sameev_raw w e.n e.s e.p e.k e.m x.A x.l x.c x.B x.bl x.bc e.b e.q f.n f.s f.p f.k f.m y.A y.l y.c y.B y.bl y.bc f.b f.q hx.A hx.B hy.A hy.B (by rw [hx.bl, hy.bl]; exact hn)
 have en := hx.n
 have es := hx.s
 have ep := hx.p
 have ek := hx.k
 have em := hx.m
 have fn := hy.n
 have fs := hy.s
 have fp := hy.p
 have fk := hy.k
 have fm := hy.m
 rw [en, es, ep, ek, em, fn, fs, fp, fk, fm]
 exact q
end
section
open Go.RowKit Go.Lib


def EvsR (w : World) (xs : List EvT) (es : List EvP) : Prop := xs.length = es.length ∧ ∀ (i : Nat) (x : EvT) (e : EvP), xs[i]? = some x → es[i]? = some e → EvR w x e
theorem EvsR.chg {w w' : World} {xs : List EvT} {es : List EvP} (h : EvsR w xs es) (hc : Chg [] w w') : EvsR w' xs es := ⟨h.1, fun i x e hx he => (h.2 i x e hx he).chg hc⟩
theorem EvsR.at_ {w : World} {xs : List EvT} {es : List EvP} (h : EvsR w xs es) {i : Nat} (hi : i < xs.length) : ∃ x e, xs[i]? = some x ∧ es[i]? = some e ∧ EvR w x e :=
 ⟨_, _, List.getElem?_eq_getElem hi, List.getElem?_eq_getElem (by rw [← h.1]; exact hi), h.2 i _ _ (List.getElem?_eq_getElem hi) (List.getElem?_eq_getElem (by rw [← h.1]; exact hi))⟩
theorem EvsR.nil (w : World) : EvsR w [] [] := ⟨rfl, fun i x e hx _ => by simp at hx⟩
def sameL : List EvP → List EvP → Bool
 | [], [] => true
 | a :: l, b :: m => sameP a b && sameL l m
 | _, _ => false
theorem sameL_len : ∀ {l m : List EvP}, sameL l m = true → l.length = m.length
 | [], [], _ => rfl
 | a :: l, b :: m, h => by
  simp only [sameL, Bool.and_eq_true] at h
  rw [List.length_cons, List.length_cons, sameL_len h.2]
 | [], _ :: _, h => by simp [sameL] at h
 | _ :: _, [], h => by simp [sameL] at h
theorem sameL_at : ∀ {l m : List EvP}, l.length = m.length → (∀ (i : Nat) (a b : EvP), l[i]? = some a → m[i]? = some b → sameP a b = true) → sameL l m = true
 | [], [], _, _ => rfl
 | a :: l, b :: m, hl, h => by
  simp only [sameL, Bool.and_eq_true]
  exact ⟨h 0 a b rfl rfl, sameL_at (by simpa using hl) (fun i x y hx hy => h (i + 1) x y (by simpa using hx) (by simpa using hy))⟩
 | [], _ :: _, hl, _ => by simp at hl
 | _ :: _, [], hl, _ => by simp at hl
theorem sameL_no : ∀ {l m : List EvP} (i : Nat) (a b : EvP), l[i]? = some a → m[i]? = some b → sameP a b = false → sameL l m = false
 | [], m, i, a, b, h, _, _ => by simp at h
 | _ :: _, [], i, a, b, _, h, _ => by simp at h
 | x :: l, y :: m, 0, a, b, hx, hy, h => by
  simp at hx hy
  subst hx hy
  simp [sameL, h]
 | x :: l, y :: m, i + 1, a, b, hx, hy, h => by
  simp only [sameL, Bool.and_eq_false_iff]
  exact .inr (sameL_no i a b (by simpa using hx) (by simpa using hy) h)
theorem sameP_refl (a : EvP) : sameP a a = true := by unfold sameP; simp
theorem sameL_refl (l : List EvP) : sameL l l = true := sameL_at rfl (fun i a b h k => by rw [h] at k; cases k; exact sameP_refl a)

set_option maxRecDepth 100000 in
theorem sameevs_any (w : World) (A B : Option Addr) (c d : Nat) (xs ys : List EvT) (es fs : List EvP) (h : RdK evTy w A xs.length xs) (h' : RdK evTy w B ys.length ys) (hx : EvsR w xs es) (hy : EvsR w ys fs) (hn : xs.length ≤ 100000 ∧ ys.length ≤ 100000) (hq : (∀ e ∈ es, e.q.length ≤ 140737488351232) ∧ (∀ e ∈ fs, e.q.length ≤ 140737488351232)) :
  Calls Tryz.prog 10 #[.slice A xs.length c, .slice B ys.length d] w fun r w' => r = .returned (.bool (sameL es fs)) ∧ Chg [] w w' := by
 have HA := h_ h
 have HB := h_ h'
 have HX := h_ hx
 have HY := h_ hy
 have HN := h_ hn
 have HQ := h_ hq
 clear h h' hx hy hn hq
 generalize hv : sameL es fs = v
 have HV := h_ hv
 clear hv
 by_cases hne : xs.length = ys.length
 rotate_left
 ·
  have hb : ((xs.length : Int) == (ys.length : Int)) = false := by simp; omega
  have hb2 : ((xs.length : Int) != (ys.length : Int)) = true := by simp; omega
  obtain rfl : v = false := by
   rw [← HV.out]
   cases q : sameL es fs with
   | false => rfl
   | true => exact absurd (sameL_len q) (by rw [← HX.out.1, ← HY.out.1]; exact hne)
  clear hne
  go_enter Tryz.func10, Tryz.ntmps10
  go_wp2; go_ret
  exact ⟨rfl, Chg.refl _ _⟩
 have hb : ((xs.length : Int) == (ys.length : Int)) = true := by simp; omega
 have hb2 : ((xs.length : Int) != (ys.length : Int)) = false := by simp; omega
 have NE_ := h_ hne
 clear hne
 go_enter Tryz.func10, Tryz.ntmps10
 go_wp2; clear hb hb2
 go_loopw [5] (fun i wr => ∃ k : Nat, k ≤ xs.length ∧ i = .int .i64 k ∧ Hid (∀ (j : Nat) (a b : EvP), j < k → es[j]? = some a → fs[j]? = some b → sameP a b = true) ∧ Hid (Chg [] w wr)) (fun i _ => xs.length - (RowKit.intOf i).toNat)
 case atStart => exact ⟨0, Nat.zero_le _, rfl, h_ (fun j a b hj => absurd hj (by omega)), Chg.refl _ _⟩
 case round =>
  obtain ⟨k, hk, rfl, TK, RC⟩ := hrel
  have i0 : (0 : Int) ≤ (k : Int) := by omega
  by_cases hlt : k < xs.length
  ·
   have hlt2 : k < ys.length := by have := NE_.out; omega
   obtain ⟨g, o, eA, _⟩ := HA.out.line (by omega)
   obtain ⟨g2, o2, eB, _⟩ := HB.out.line (by omega)
   subst eA eB
   obtain ⟨x, e, ex, ee, rx⟩ := HX.out.at_ hlt
   obtain ⟨y, f, ey, ef, ry⟩ := HY.out.at_ hlt2
   have DX : Hid (∀ w', Chg [] w w' → (fun w' => (w'.cell? ⟨g, o + k * 7, none⟩ = some (.int .i64 x.n) ∧ w'.cell? ⟨g, o + k * 7 + 1, none⟩ = some (.int .i64 x.s) ∧ w'.cell? ⟨g, o + k * 7 + 2, none⟩ = some (.string x.p) ∧ w'.cell? ⟨g, o + k * 7 + 3, none⟩ = some (.int .i64 x.k) ∧ w'.cell? ⟨g, o + k * 7 + 4, none⟩ = some (.int .i64 x.m) ∧ w'.cell? ⟨g, o + k * 7 + 5, none⟩ = some (.slice x.A x.l x.c) ∧ w'.cell? ⟨g, o + k * 7 + 6, none⟩ = some (.slice x.B x.bl x.bc)) ∧ (w'.cell? ⟨g2, o2 + k * 7, none⟩ = some (.int .i64 y.n) ∧ w'.cell? ⟨g2, o2 + k * 7 + 1, none⟩ = some (.int .i64 y.s) ∧ w'.cell? ⟨g2, o2 + k * 7 + 2, none⟩ = some (.string y.p) ∧ w'.cell? ⟨g2, o2 + k * 7 + 3, none⟩ = some (.int .i64 y.k) ∧ w'.cell? ⟨g2, o2 + k * 7 + 4, none⟩ = some (.int .i64 y.m) ∧ w'.cell? ⟨g2, o2 + k * 7 + 5, none⟩ = some (.slice y.A y.l y.c) ∧ w'.cell? ⟨g2, o2 + k * 7 + 6, none⟩ = some (.slice y.B y.bl y.bc))) w') := h_ (fun w' hc => ⟨evCells (HA.out.chg hc (by simp)) ex, evCells (HB.out.chg hc (by simp)) ey⟩)
   have i1 : (k : Int) < (xs.length : Int) := by omega
   have i2 : (k : Int) < (ys.length : Int) := by omega
   have i3 : IntKind.i64.wrap ((k : Int) + 1) = (k : Int) + 1 := IntWalk.i64_in _ (by have := HN.out.1; omega)
   have RX := h_ rx
   have RY := h_ ry
   have EE := h_ (And.intro ee ef)
   clear ex ey ee ef rx ry
   obtain ⟨⟨z0, z1, z2, z3, z4, z5, z6⟩, ⟨y0, y1, y2, y3, y4, y5, y6⟩⟩ := DX.out _ RC.out
   go_upto_region 6 with fail
   clear z0 z1 z2 z3 z4 z5 z6 y0 y1 y2 y3 y4 y5 y6
   refine wp_region_held_drew (S := fun w' => (w'.cell? ⟨g, o + k * 7, none⟩ = some (.int .i64 x.n) ∧ w'.cell? ⟨g, o + k * 7 + 1, none⟩ = some (.int .i64 x.s) ∧ w'.cell? ⟨g, o + k * 7 + 2, none⟩ = some (.string x.p) ∧ w'.cell? ⟨g, o + k * 7 + 3, none⟩ = some (.int .i64 x.k) ∧ w'.cell? ⟨g, o + k * 7 + 4, none⟩ = some (.int .i64 x.m) ∧ w'.cell? ⟨g, o + k * 7 + 5, none⟩ = some (.slice x.A x.l x.c) ∧ w'.cell? ⟨g, o + k * 7 + 6, none⟩ = some (.slice x.B x.bl x.bc)) ∧ (w'.cell? ⟨g2, o2 + k * 7, none⟩ = some (.int .i64 y.n) ∧ w'.cell? ⟨g2, o2 + k * 7 + 1, none⟩ = some (.int .i64 y.s) ∧ w'.cell? ⟨g2, o2 + k * 7 + 2, none⟩ = some (.string y.p) ∧ w'.cell? ⟨g2, o2 + k * 7 + 3, none⟩ = some (.int .i64 y.k) ∧ w'.cell? ⟨g2, o2 + k * 7 + 4, none⟩ = some (.int .i64 y.m) ∧ w'.cell? ⟨g2, o2 + k * 7 + 5, none⟩ = some (.slice y.A y.l y.c) ∧ w'.cell? ⟨g2, o2 + k * 7 + 6, none⟩ = some (.slice y.B y.bl y.bc))) (by kernel_rfl) (DX.out _ (RC.out.trans (Chg.refl [] wr).drew)) (fun hHeld => ?_)
   have C2 : Hid (Chg [] w wr.drew) := h_ (RC.out.trans (Chg.refl [] wr).drew)
   clear hHeld RC
   generalize wr.drew = wc at *
   refine sy 0 17 rfl rfl ?_ (hS := (DX.out _ C2.out))
   try simp only [Act.put, sA, s0, s1]
   refine sy 1 18 rfl rfl ?_ (hS := (DX.out _ C2.out))
   try simp only [Act.put, sA, s0, s1]
   refine sy 2 19 rfl rfl ?_ (hS := (DX.out _ C2.out))
   try simp only [Act.put, sA, s0, s1]
   refine sy 3 20 rfl rfl ?_ (hS := (DX.out _ C2.out)) (hy := by (intro w hSw; (try dsimp only at hSw); obtain ⟨⟨q0, q1, q2, q3, q4, q5, q6⟩, ⟨p0, p1, p2, p3, p4, p5, p6⟩⟩ := hSw; go_simp; try with_reducible rfl))
   try simp only [Act.put, sA, s0, s1]
   refine sy 4 21 rfl rfl ?_ (hS := (DX.out _ C2.out))
   try simp only [Act.put, sA, s0, s1]
   refine sy 5 22 rfl rfl ?_ (hS := (DX.out _ C2.out))
   try simp only [Act.put, sA, s0, s1]
   refine sy 6 23 rfl rfl ?_ (hS := (DX.out _ C2.out))
   try simp only [Act.put, sA, s0, s1]
   refine sy 7 24 rfl rfl ?_ (hS := (DX.out _ C2.out)) (hy := by (intro w hSw; (try dsimp only at hSw); obtain ⟨⟨q0, q1, q2, q3, q4, q5, q6⟩, ⟨p0, p1, p2, p3, p4, p5, p6⟩⟩ := hSw; go_simp; try with_reducible rfl))
   try simp only [Act.put, sA, s0, s1]
   refine on1 8 rfl (fun K hK => ?_)
   go_simp
   refine (sameev_any wc x y e f (RX.out.chg C2.out) (RY.out.chg C2.out) ⟨HQ.out.1 e (List.mem_of_getElem? EE.out.1), HQ.out.2 f (List.mem_of_getElem? EE.out.2)⟩).mono ?_
   rintro r wc ⟨rfl, hc⟩
   replace C2 := h_ (C2.out.trans hc)
   clear hc
   generalize hs : sameP e f = sv
   refine hK.out _ _ (DX.out _ C2.out) (fun hHeld => ?_)
   clear hK K; try simp only [Act.put, sA, s0, s1]
   refine sy 9 26 rfl rfl ?_ (hS := (DX.out _ C2.out))
   try simp only [Act.put, sA, s0, s1]
   refine wpAnyH_done (by kernel_rfl) ?_ _; clear hHeld
   rcases sv with _ | _
   ·
    obtain rfl : v = false := by rw [← HV.out]; exact sameL_no k e f EE.out.1 EE.out.2 hs
    clear hs HV; go_wp2; go_ret
    exact ⟨rfl, C2.out⟩
   ·
    have TN : Hid (∀ (j : Nat) (a b : EvP), j < k + 1 → es[j]? = some a → fs[j]? = some b → sameP a b = true) := h_ (fun j a b hj ha hb => by
     by_cases q : j = k
     ·
      subst q
      rw [EE.out.1] at ha
      rw [EE.out.2] at hb
      cases ha; cases hb
      exact hs
     ·
      exact TK.out j a b (by omega) ha hb)
    clear hs; go_wp2; go_round
    case rel => exact ⟨k + 1, by omega, by go_num, TN, C2.out⟩
    case measure => simp [RowKit.intOf]; omega
  ·
   obtain rfl : k = xs.length := by omega
   have i1 : ¬ (xs.length : Int) < (xs.length : Int) := by omega
   obtain rfl : v = true := by
    rw [← HV.out]
    exact sameL_at (by rw [← HX.out.1, ← HY.out.1]; exact NE_.out) (fun j a b ha hb => TK.out j a b (by have := (List.getElem?_eq_some_iff.1 ha).1; rw [← HX.out.1] at this; exact this) ha hb)
   clear HV; go_wp2; go_ret
   exact ⟨rfl, RC.out⟩
end
section
open Go.RowKit Go.Lib


theorem set3_2 {w w0 : World} {z : Nat} {s0 s1 : Nat} {a0 a1 a2 : Value} {T : TypeId} {o : Obj} (v2 : Value) (q0 : w.heap[s0]? = some (.cells #[a0, a1, a2] T (0, 0))) (q1 : w.heap[s1]? = some o) (h : s0 ≠ s1) (hz : z ≤ s0) (C : Chg [] w0 w) (hw0 : w0.heap.size = z) :
  (w.setCell ⟨s0, 2, none⟩ v2).heap[s0]? = some (.cells #[a0, a1, v2] T (0, 0)) ∧ (w.setCell ⟨s0, 2, none⟩ v2).heap[s1]? = some o ∧ Chg [] w0 (w.setCell ⟨s0, 2, none⟩ v2) := by
 have p0 := heap_setCell_same _ s0 2 _ _ v2 q0
 refine ⟨p0, ?_, ?_⟩
 ·
  rw [Below.heap_setCell _ _ _ _ (by simp; exact fun e => h e.symm)]
  exact q1
 ·
  exact (C.put (by omega) 2 v2)
theorem set3_all {w w0 : World} {z : Nat} {s0 s1 : Nat} {a0 a1 a2 : Value} {T : TypeId} {o : Obj} (v0 v1 v2 : Value) (q0 : w.heap[s0]? = some (.cells #[a0, a1, a2] T (0, 0))) (q1 : w.heap[s1]? = some o) (h : s0 ≠ s1) (hz : z ≤ s0) (C : Chg [] w0 w) (hw0 : w0.heap.size = z) :
  (((w.setCell ⟨s0, 0, none⟩ v0).setCell ⟨s0, 1, none⟩ v1).setCell ⟨s0, 2, none⟩ v2).heap[s0]? = some (.cells #[v0, v1, v2] T (0, 0)) ∧ (((w.setCell ⟨s0, 0, none⟩ v0).setCell ⟨s0, 1, none⟩ v1).setCell ⟨s0, 2, none⟩ v2).heap[s1]? = some o ∧ Chg [] w0 (((w.setCell ⟨s0, 0, none⟩ v0).setCell ⟨s0, 1, none⟩ v1).setCell ⟨s0, 2, none⟩ v2) := by
 have p0 := heap_setCell_same _ s0 0 _ _ v0 q0
 have p1 := heap_setCell_same _ s0 1 _ _ v1 p0
 have p2 := heap_setCell_same _ s0 2 _ _ v2 p1
 refine ⟨p2, ?_, ?_⟩
 ·
  rw [Below.heap_setCell _ _ _ _ (by simp; exact fun e => h e.symm), Below.heap_setCell _ _ _ _ (by simp; exact fun e => h e.symm), Below.heap_setCell _ _ _ _ (by simp; exact fun e => h e.symm)]
  exact q1
 ·
  exact (((C.put (by omega) 0 v0).put (by omega) 1 v1).put (by omega) 2 v2)
theorem set7_3 {w w0 : World} {z : Nat} {s0 s1 : Nat} {a0 a1 a2 a3 a4 a5 a6 : Value} {T : TypeId} {o : Obj} (v3 v4 v5 : Value) (q0 : w.heap[s0]? = some (.cells #[a0, a1, a2, a3, a4, a5, a6] T (0, 0))) (q1 : w.heap[s1]? = some o) (h : s0 ≠ s1) (hz : z ≤ s0) (C : Chg [] w0 w) (hw0 : w0.heap.size = z) :
  (((w.setCell ⟨s0, 3, none⟩ v3).setCell ⟨s0, 4, none⟩ v4).setCell ⟨s0, 5, none⟩ v5).heap[s0]? = some (.cells #[a0, a1, a2, v3, v4, v5, a6] T (0, 0)) ∧ (((w.setCell ⟨s0, 3, none⟩ v3).setCell ⟨s0, 4, none⟩ v4).setCell ⟨s0, 5, none⟩ v5).heap[s1]? = some o ∧ Chg [] w0 (((w.setCell ⟨s0, 3, none⟩ v3).setCell ⟨s0, 4, none⟩ v4).setCell ⟨s0, 5, none⟩ v5) := by
 have p0 := heap_setCell_same _ s0 3 _ _ v3 q0
 have p1 := heap_setCell_same _ s0 4 _ _ v4 p0
 have p2 := heap_setCell_same _ s0 5 _ _ v5 p1
 refine ⟨p2, ?_, ?_⟩
 ·
  rw [Below.heap_setCell _ _ _ _ (by simp; exact fun e => h e.symm), Below.heap_setCell _ _ _ _ (by simp; exact fun e => h e.symm), Below.heap_setCell _ _ _ _ (by simp; exact fun e => h e.symm)]
  exact q1
 ·
  exact (((C.put (by omega) 3 v3).put (by omega) 4 v4).put (by omega) 5 v5)
theorem set7_1 {w w0 : World} {z : Nat} {s0 s1 : Nat} {a0 a1 a2 a3 a4 a5 a6 : Value} {T : TypeId} {o : Obj} (v6 : Value) (q0 : w.heap[s0]? = some (.cells #[a0, a1, a2, a3, a4, a5, a6] T (0, 0))) (q1 : w.heap[s1]? = some o) (h : s0 ≠ s1) (hz : z ≤ s0) (C : Chg [] w0 w) (hw0 : w0.heap.size = z) :
  (w.setCell ⟨s0, 6, none⟩ v6).heap[s0]? = some (.cells #[a0, a1, a2, a3, a4, a5, v6] T (0, 0)) ∧ (w.setCell ⟨s0, 6, none⟩ v6).heap[s1]? = some o ∧ Chg [] w0 (w.setCell ⟨s0, 6, none⟩ v6) := by
 have p0 := heap_setCell_same _ s0 6 _ _ v6 q0
 refine ⟨p0, ?_, ?_⟩
 ·
  rw [Below.heap_setCell _ _ _ _ (by simp; exact fun e => h e.symm)]
  exact q1
 ·
  exact (C.put (by omega) 6 v6)
theorem set7_all {w w0 : World} {z : Nat} {s0 s1 : Nat} {a0 a1 a2 a3 a4 a5 a6 : Value} {T : TypeId} {o : Obj} (v0 v1 v2 v3 v4 v5 v6 : Value) (q0 : w.heap[s0]? = some (.cells #[a0, a1, a2, a3, a4, a5, a6] T (0, 0))) (q1 : w.heap[s1]? = some o) (h : s0 ≠ s1) (hz : z ≤ s0) (C : Chg [] w0 w) (hw0 : w0.heap.size = z) :
  (((((((w.setCell ⟨s0, 0, none⟩ v0).setCell ⟨s0, 1, none⟩ v1).setCell ⟨s0, 2, none⟩ v2).setCell ⟨s0, 3, none⟩ v3).setCell ⟨s0, 4, none⟩ v4).setCell ⟨s0, 5, none⟩ v5).setCell ⟨s0, 6, none⟩ v6).heap[s0]? = some (.cells #[v0, v1, v2, v3, v4, v5, v6] T (0, 0)) ∧ (((((((w.setCell ⟨s0, 0, none⟩ v0).setCell ⟨s0, 1, none⟩ v1).setCell ⟨s0, 2, none⟩ v2).setCell ⟨s0, 3, none⟩ v3).setCell ⟨s0, 4, none⟩ v4).setCell ⟨s0, 5, none⟩ v5).setCell ⟨s0, 6, none⟩ v6).heap[s1]? = some o ∧ Chg [] w0 (((((((w.setCell ⟨s0, 0, none⟩ v0).setCell ⟨s0, 1, none⟩ v1).setCell ⟨s0, 2, none⟩ v2).setCell ⟨s0, 3, none⟩ v3).setCell ⟨s0, 4, none⟩ v4).setCell ⟨s0, 5, none⟩ v5).setCell ⟨s0, 6, none⟩ v6) := by
 have p0 := heap_setCell_same _ s0 0 _ _ v0 q0
 have p1 := heap_setCell_same _ s0 1 _ _ v1 p0
 have p2 := heap_setCell_same _ s0 2 _ _ v2 p1
 have p3 := heap_setCell_same _ s0 3 _ _ v3 p2
 have p4 := heap_setCell_same _ s0 4 _ _ v4 p3
 have p5 := heap_setCell_same _ s0 5 _ _ v5 p4
 have p6 := heap_setCell_same _ s0 6 _ _ v6 p5
 refine ⟨p6, ?_, ?_⟩
 ·
  rw [Below.heap_setCell _ _ _ _ (by simp; exact fun e => h e.symm), Below.heap_setCell _ _ _ _ (by simp; exact fun e => h e.symm), Below.heap_setCell _ _ _ _ (by simp; exact fun e => h e.symm), Below.heap_setCell _ _ _ _ (by simp; exact fun e => h e.symm), Below.heap_setCell _ _ _ _ (by simp; exact fun e => h e.symm), Below.heap_setCell _ _ _ _ (by simp; exact fun e => h e.symm), Below.heap_setCell _ _ _ _ (by simp; exact fun e => h e.symm)]
  exact q1
 ·
  exact (((((((C.put (by omega) 0 v0).put (by omega) 1 v1).put (by omega) 2 v2).put (by omega) 3 v3).put (by omega) 4 v4).put (by omega) 5 v5).put (by omega) 6 v6)

set_option maxRecDepth 100000 in
theorem copyeff_any (w : World) (k m : Int) (A : Option Addr) (n c : Nat) (ys : List UInt8) (h : Bs w A n ys) (hn : n ≤ 140737488351232) :
  Calls Tryz.prog 63 #[.agg #[.int .i64 k, .int .i64 m, .slice A n c]] w fun r w' => ∃ A' c', r = .returned (.agg #[.int .i64 k, .int .i64 m, .slice A' n c']) ∧ Fresh w w' A' c' ys := by
 obtain ⟨w2, hw, hc, b0, b1⟩ := news2 w (.cells #[.int .i64 k, .int .i64 m, .slice A n c] 38) (.cells #[.int .i64 0, .int .i64 0, .slice none 0 0] 38)
 have W2 := h_ hw
 have H := h_ (h.chg hc (by simp))
 have C := h_ hc
 have HN := h_ hn
 obtain ⟨g0, hg0⟩ : ∃ g, w.heap.size = g := ⟨_, rfl⟩
 obtain ⟨g1, hg1⟩ : ∃ g, w.heap.size + 1 = g := ⟨_, rfl⟩
 have SZ := h_ hg0
 have S1 := h_ hg1
 rw [hg0] at b0
 rw [hg1] at b1
 have B0 := h_ b0
 have B1 := h_ b1
 have NEg0 : Hid (g0 ≠ g1) := h_ (by omega)
 have NEg1 : Hid (g1 ≠ g0) := h_ (by omega)
 have LZg0 : Hid (g0 ≤ g0) := h_ (Nat.le_refl _)
 have LZg1 : Hid (g0 ≤ g1) := h_ (by omega)
 have L0 := h_ (lt_of_heap b0)
 have L1 := h_ (lt_of_heap b1)
 clear hw hc b0 b1 h hn hg0 hg1
 go_enter Tryz.func63, Tryz.ntmps63
 go_upto_region 1 with fail
 rw [← W2.out, S1.out, SZ.out]
 have z0 := cell_of B0.out 0
 have fz0 := free_of B0.out 0
 have z1 := cell_of B0.out 1
 have fz1 := free_of B0.out 1
 have z2 := cell_of B0.out 2
 have fz2 := free_of B0.out 2
 simp only [gA, gY, gZ] at z0 z1 z2
 go_wp2_with fail
 refine (copy_any w2 A n c ys H.out HN.out).mono ?_
 rintro r w3 ⟨A3, c3, rfl, h3⟩
 clear z0 z1 z2 fz0 fz1 fz2
 replace B0 := h_ (h3.2.2.at_ B0.out (by simp))
 replace B1 := h_ (h3.2.2.at_ B1.out (by simp))
 have O3 := h_ h3.1
 have N3 := h_ h3.2.1
 have S2 := h_ C.out.size
 replace C := h_ (C.out.trans h3.2.2)
 have LT3 : Hid (∀ a, A3 = some a → a.block ≠ g0 ∧ a.block ≠ g1) := h_ (fun a ha => by
  have q := N3.out a ha
  have r0 := L0.out
  have r1 := L1.out
  omega)
 clear h3
 have z0 := cell_of B0.out 0
 have fz0 := free_of B0.out 0
 have z1 := cell_of B0.out 1
 have fz1 := free_of B0.out 1
 have z2 := cell_of B0.out 2
 have fz2 := free_of B0.out 2
 simp only [gA, gY, gZ] at z0 z1 z2
 go_upto_region 2 with fail
 clear z0 z1 z2 fz0 fz1 fz2
 obtain ⟨p0, p1, p2⟩ := set3_2 (.slice A3 n c3) B0.out B1.out NEg0.out LZg0.out C.out SZ.out
 generalize hW : (w3.setCell ⟨g0, 2, none⟩ (.slice A3 n c3)) = w4 at *
 replace B0 := h_ p0
 replace B1 := h_ p1
 have O4 := h_ (O3.out.chg (S := [g0]) (hW ▸ (Chg.refl [g0] w3).put' 2 _) (fun a ha => by simp; exact (LT3.out a ha).1))
 replace C := h_ p2
 clear p0 p1 p2 hW O3
 have z0 := cell_of B0.out 0
 have fz0 := free_of B0.out 0
 have z1 := cell_of B0.out 1
 have fz1 := free_of B0.out 1
 have z2 := cell_of B0.out 2
 have fz2 := free_of B0.out 2
 simp only [gA, gY, gZ] at z0 z1 z2
 have y0 := cell_of B1.out 0
 have fy0 := free_of B1.out 0
 have y1 := cell_of B1.out 1
 have fy1 := free_of B1.out 1
 have y2 := cell_of B1.out 2
 have fy2 := free_of B1.out 2
 simp only [gA, gY, gZ] at y0 y1 y2
 go_wp2; clear z0 z1 z2 fz0 fz1 fz2; clear y0 y1 y2 fy0 fy1 fy2
 obtain ⟨p0, p1, p2⟩ := set3_all (.int .i64 k) (.int .i64 m) (.slice A3 n c3) B1.out B0.out NEg1.out LZg1.out C.out SZ.out
 generalize hW : (((w4.setCell ⟨g1, 0, none⟩ (.int .i64 k)).setCell ⟨g1, 1, none⟩ (.int .i64 m)).setCell ⟨g1, 2, none⟩ (.slice A3 n c3)) = w5 at *
 have O5 := h_ (O4.out.chg (S := [g1]) (hW ▸ (((Chg.refl [g1] w4).put' 0 _).put' 1 _).put' 2 _) (fun a ha => by simp; exact (LT3.out a ha).2))
 replace B1 := h_ p0
 replace C := h_ p2
 clear p0 p1 p2 hW O4
 obtain ⟨y0, y1, y2⟩ := ce3 B1.out
 refine bodyPost_ret (v := .agg #[.int .i64 k, .int .i64 m, .slice A3 n c3]) (by simp [results, Tryz.results63, go_sem, y0, y1, y2]) rfl ?_
 exact ⟨A3, c3, rfl, O5.out, fun a ha => Nat.le_trans S2.out (N3.out a ha), C.out⟩
end
end Go.Proofs.YtehmchdhlhchjaaGreatDoor
