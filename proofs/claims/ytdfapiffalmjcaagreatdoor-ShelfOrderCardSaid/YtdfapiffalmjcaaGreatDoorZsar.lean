/- Shelves: purely. An event put on a shelf, as the document goes through it, and as the program does: purely. What a shelf is with one event more: purely. What a shelf's Check has seen, purely. shelf.isAheadOfOne. shelf.Check. shelf.find. shelf.without's func; IndexFunc at it. Package past: Bytes; the document's. The document's Bytes of a past. -/
import Derived.Test.YtdfapiffalmjcaaGreatDoorZsaq
import Derived.Test.YtdfapiffalmjcaaGreatDoorZsan
import Derived.Test.YtdfapiffalmjcaaGreatDoorZsam
import Derived.Test.YtdfapiffalmjcaaGreatDoorZsad
import Derived.Deep.Cut
import Derived.BigQuiet
import Derived.Test.YtdfapiffalmjcaaGreatDoorZsac
import Derived.Test.YtdfapiffalmjcaaGreatDoorZsak
import Derived.Test.YtdfapiffalmjcaaGreatDoorZsaa
namespace Go.Proofs.YtdfapiffalmjcaaGreatDoor
section
open Go.RowKit Go.Lib
set_option linter.unusedSimpArgs false
set_option linter.unusedVariables false

def LtEv (a b : EvP) : Prop := LtD a.n a.s b.n b.s
instance (a b : EvP) : Decidable (LtEv a b) := by unfold LtEv; exact inferInstance
theorem LtEv.irr (a : EvP) : ¬ LtEv a a := by unfold LtEv LtD; omega
theorem LtEv.tr {a b c : EvP} (h : LtEv a b) (k : LtEv b c) : LtEv a c := by unfold LtEv LtD at *; omega
/-- Are these a shelf? -/
def ShOk (l : List EvP) : Prop := (∀ e ∈ l, chkEv e = 0) ∧ (∀ e ∈ l, ∀ f ∈ l, e.p = f.p) ∧ l.Pairwise LtEv ∧ ∀ e ∈ l, ∀ f ∈ l, aheadP e f = false
instance (l : List EvP) : Decidable (ShOk l) := by unfold ShOk; exact inferInstance
def shE (l : List EvP) : Int := if ShOk l then 0 else 2
/-- One more, by its dot. -/
def insE (e : EvP) : List EvP → List EvP
  | [] => [e]
  | x :: l => if LtEv e x then e :: x :: l else x :: insE e l
/-- Does it stay as it is, when this one comes? -/
def stayE (l : List EvP) (e : EvP) : Bool := l.any (fun x => decide (x.n = e.n ∧ x.s = e.s) || aheadP e x)
def putE (l : List EvP) (e : EvP) : List EvP := if stayE l e = true then l else insE e (l.filter (fun x => !aheadP x e))
theorem insE_mem (e y : EvP) : ∀ l, y ∈ insE e l ↔ y = e ∨ y ∈ l
  | [] => by simp [insE]
  | x :: l => by
    unfold insE
    split
    · simp
    · rw [List.mem_cons, insE_mem e y l, List.mem_cons]
      constructor
      · rintro (h | h | h)
        · exact .inr (.inl h)
        · exact .inl h
        · exact .inr (.inr h)
      · rintro (h | h | h)
        · exact .inr (.inl h)
        · exact .inl h
        · exact .inr (.inr h)
theorem insE_up (e : EvP) : ∀ l, l.Pairwise LtEv → (∀ x ∈ l, ¬ (x.n = e.n ∧ x.s = e.s)) → (insE e l).Pairwise LtEv
  | [], _, _ => by simp [insE]
  | x :: l, h, hd => by
    have hp := List.pairwise_cons.1 h
    unfold insE
    split
    · rename_i q
      refine List.pairwise_cons.2 ⟨fun y hy => ?_, h⟩
      rcases List.mem_cons.1 hy with r | r
      · rw [r]; exact q
      · exact q.tr (hp.1 y r)
    · rename_i q
      refine List.pairwise_cons.2 ⟨fun y hy => ?_, insE_up e l hp.2 (fun y hy => hd y (by simp [hy]))⟩
      rcases (insE_mem e y l).1 hy with r | r
      · subst r
        have := hd x (by simp)
        unfold LtEv LtD at *
        omega
      · exact hp.1 y r
/-- In order, and of the same events: the same list. -/
theorem up_ext : ∀ {l m : List EvP}, l.Pairwise LtEv → m.Pairwise LtEv → (∀ x, x ∈ l ↔ x ∈ m) → l = m
  | [], [], _, _, _ => rfl
  | [], y :: m, _, _, h => absurd ((h y).2 (by simp)) (by simp)
  | x :: l, [], _, _, h => absurd ((h x).1 (by simp)) (by simp)
  | x :: l, y :: m, hl, hm, h => by
    have pl := List.pairwise_cons.1 hl
    have pm := List.pairwise_cons.1 hm
    have e : x = y := by
      rcases List.mem_cons.1 ((h x).1 (by simp)) with a | a
      · exact a
      · rcases List.mem_cons.1 ((h y).2 (by simp)) with b | b
        · exact b.symm
        · exact absurd ((pl.1 y b).tr (pm.1 x a)) (LtEv.irr x)
    subst e
    congr 1
    refine up_ext pl.2 pm.2 (fun z => ?_)
    constructor
    · intro hz
      rcases List.mem_cons.1 ((h z).1 (by simp [hz])) with a | a
      · subst a; exact absurd (pl.1 z hz) (LtEv.irr z)
      · exact a
    · intro hz
      rcases List.mem_cons.1 ((h z).2 (by simp [hz])) with a | a
      · subst a; exact absurd (pm.1 z hz) (LtEv.irr z)
      · exact a
/-- What stands on it stays a shelf's. -/
theorem put_ok {l : List EvP} {e : EvP} (h : ShOk l) (he : chkEv e = 0) (hp : ∀ x ∈ l, x.p = e.p) : ShOk (putE l e) := by
  unfold putE
  split
  · exact h
  · rename_i q
    have no : ∀ x ∈ l, ¬ (x.n = e.n ∧ x.s = e.s) ∧ aheadP e x = false := fun x hx => by
      have : (decide (x.n = e.n ∧ x.s = e.s) || aheadP e x) = false := by
        rcases r : (decide (x.n = e.n ∧ x.s = e.s) || aheadP e x) with _ | _
        · rfl
        · exact absurd (List.any_eq_true.2 ⟨x, hx, r⟩) q
      rw [Bool.or_eq_false_iff, decide_eq_false_iff_not] at this
      exact this
    have self : aheadP e e = false := ahead_no he he (own_out he)
    have mem : ∀ y, y ∈ insE e (l.filter (fun x => !aheadP x e)) ↔ y = e ∨ y ∈ l ∧ aheadP y e = false := fun y => by
      rw [insE_mem, List.mem_filter]
      simp
    refine ⟨fun y hy => ?_, fun y hy z hz => ?_, ?_, fun y hy z hz => ?_⟩
    · rcases (mem y).1 hy with r | r
      · rw [r]; exact he
      · exact h.1 y r.1
    · have key : ∀ u, u ∈ insE e (l.filter (fun x => !aheadP x e)) → u.p = e.p := fun u hu => by
        rcases (mem u).1 hu with r | r
        · rw [r]
        · exact hp u r.1
      rw [key y hy, key z hz]
    · exact insE_up e _ (h.2.2.1.sublist List.filter_sublist) (fun x hx => (no x (List.mem_filter.1 hx).1).1)
    · rcases (mem y).1 hy with r | r <;> rcases (mem z).1 hz with s | s
      · rw [r, s]; exact self
      · rw [r]; exact (no z s.1).2
      · rw [s]; exact r.2
      · exact h.2.2.2 y r.1 z s.1
/-! Closed events -/
section
variable {U : List EvP} (hU : closedE U = true)
include hU
theorem cl_chk {a : EvP} (ha : a ∈ U) : chkEv a = 0 := okAll_iff.1 (closed_ok hU).1 a ha
theorem cl_irr {a : EvP} (ha : a ∈ U) : aheadP a a = false := ahead_no (cl_chk hU ha) (cl_chk hU ha) (own_out (cl_chk hU ha))
theorem cl_tr {a b c : EvP} (ha : a ∈ U) (hb : b ∈ U) (hc : c ∈ U) (h : aheadP a b = true) (k : aheadP b c = true) : aheadP a c = true := by
  obtain ⟨i, hi⟩ := List.getElem?_of_mem ha
  obtain ⟨j, hj⟩ := List.getElem?_of_mem hb
  obtain ⟨m, hm⟩ := List.getElem?_of_mem hc
  exact order_three hU hi hj hm h k
theorem cl_dot {a b : EvP} (ha : a ∈ U) (hb : b ∈ U) (hn : a.n = b.n) (hs : a.s = b.s) : a = b := by
  obtain ⟨i, hi⟩ := List.getElem?_of_mem ha
  obtain ⟨k, hk⟩ := List.getElem?_of_mem hb
  by_cases q : k = i
  · subst q
    rw [hi] at hk
    exact Option.some.inj hk
  · exact absurd ⟨hn, hs⟩ (pair_at.1 (closed_ok hU).2 i k a b hi hk q).1
end
/-- None of these follows it. -/
def TopE (S : List EvP) (x : EvP) : Prop := x ∈ S ∧ ∀ y ∈ S, aheadP x y = false
/-- The shelf of these. -/
def ShOf (S l : List EvP) : Prop := l.Pairwise LtEv ∧ ∀ x, x ∈ l ↔ TopE S x
theorem top_same {S T : List EvP} (h : ∀ x, x ∈ S ↔ x ∈ T) (x : EvP) : TopE S x ↔ TopE T x :=
  ⟨fun q => ⟨(h x).1 q.1, fun y hy => q.2 y ((h y).2 hy)⟩, fun q => ⟨(h x).2 q.1, fun y hy => q.2 y ((h y).1 hy)⟩⟩
theorem shOf_same {S T l m : List EvP} (h : ∀ x, x ∈ S ↔ x ∈ T) (hl : ShOf S l) (hm : ShOf T m) : l = m :=
  up_ext hl.1 hm.1 (fun x => by rw [hl.2, hm.2, top_same h])
theorem top_over {U S : List EvP} (hU : closedE U = true) (hS : ∀ x ∈ S, x ∈ U) : ∀ (n : Nat) (x : EvP), x ∈ S → S.countP (fun y => aheadP x y) ≤ n → ∃ y, TopE S y ∧ (y = x ∨ aheadP x y = true)
  | n, x, hx, hn => by
    by_cases q : ∃ y ∈ S, aheadP x y = true
    · obtain ⟨y, hy, hxy⟩ := q
      have lt : S.countP (fun z => aheadP y z) < S.countP (fun z => aheadP x z) := by
        have sub : ∀ z ∈ S, aheadP y z = true → aheadP x z = true := fun z hz h => cl_tr hU (hS x hx) (hS y hy) (hS z hz) hxy h
        clear hn hx
        have strict : ∀ (L : List EvP), (∀ z ∈ L, aheadP y z = true → aheadP x z = true) → y ∈ L → L.countP (fun z => aheadP y z) < L.countP (fun z => aheadP x z) := by
          intro L
          induction L with
          | nil => intro _ h; cases h
          | cons z L ih =>
            intro hs hm
            rw [List.countP_cons, List.countP_cons]
            have le : L.countP (fun z => aheadP y z) ≤ L.countP (fun z => aheadP x z) := List.countP_mono_left (fun w hw => hs w (by simp [hw]))
            rcases List.mem_cons.1 hm with r | r
            · subst r
              rw [cl_irr hU (hS y hy), hxy]
              simp
              omega
            · have a := ih (fun w hw => hs w (by simp [hw])) r
              have b := hs z (by simp)
              by_cases c : aheadP y z = true
              · rw [if_pos c, if_pos (b c)]; omega
              · rw [if_neg c]; omega
        exact strict S sub hy
      match n, hn with
      | 0, hn => omega
      | n + 1, hn =>
        obtain ⟨t, ht, h⟩ := top_over hU hS n y hy (by omega)
        refine ⟨t, ht, .inr ?_⟩
        rcases h with r | r
        · rw [r]; exact hxy
        · exact cl_tr hU (hS x hx) (hS y hy) (hS t ht.1) hxy r
    · refine ⟨x, ⟨hx, fun y hy => ?_⟩, .inl rfl⟩
      rcases r : aheadP x y with _ | _
      · rfl
      · exact absurd ⟨y, hy, r⟩ q
theorem has_top {U S : List EvP} (hU : closedE U = true) (hS : ∀ x ∈ S, x ∈ U) {x : EvP} (hx : x ∈ S) : ∃ y, TopE S y ∧ (y = x ∨ aheadP x y = true) := top_over hU hS _ x hx (Nat.le_refl _)
theorem stay_iff {l : List EvP} {e : EvP} : stayE l e = true ↔ ∃ x ∈ l, (x.n = e.n ∧ x.s = e.s) ∨ aheadP e x = true := by
  unfold stayE
  rw [List.any_eq_true]
  simp only [Bool.or_eq_true, decide_eq_true_eq]
/-- One more of closed events is put. -/
theorem put_top {U S l : List EvP} {e : EvP} (hU : closedE U = true) (hS : ∀ x ∈ S, x ∈ U) (he : e ∈ U) (h : ShOf S l) : ShOf (e :: S) (putE l e) := by
  unfold putE
  by_cases q : stayE l e = true
  · rw [if_pos q]
    refine ⟨h.1, fun x => (h.2 x).trans ?_⟩
    obtain ⟨y, hy, r⟩ := stay_iff.1 q
    have ty := (h.2 y).1 hy
    rcases r with r | r
    · have e1 : y = e := cl_dot hU (hS y ty.1) he r.1 r.2
      subst e1
      exact top_same (fun z => ⟨fun hz => by simp [hz], fun hz => by
        rcases List.mem_cons.1 hz with a | a
        · rw [a]; exact ty.1
        · exact a⟩) x
    · constructor
      · rintro ⟨hx, hm⟩
        refine ⟨by simp [hx], fun z hz => ?_⟩
        rcases List.mem_cons.1 hz with a | a
        · subst a
          rcases s : aheadP x z with _ | _
          · rfl
          · have := cl_tr hU (hS x hx) he (hS y ty.1) s r
            rw [hm y ty.1] at this
            cases this
        · exact hm z a
      · rintro ⟨hx, hm⟩
        rcases List.mem_cons.1 hx with a | a
        · subst a
          have := hm y (by simp [ty.1])
          rw [r] at this
          cases this
        · exact ⟨a, fun z hz => hm z (by simp [hz])⟩
  · rw [if_neg q]
    have no : ∀ x ∈ l, ¬ (x.n = e.n ∧ x.s = e.s) ∧ aheadP e x = false := fun x hx => by
      refine ⟨fun r => q (stay_iff.2 ⟨x, hx, .inl r⟩), ?_⟩
      rcases r : aheadP e x with _ | _
      · rfl
      · exact absurd (stay_iff.2 ⟨x, hx, .inr r⟩) q
    refine ⟨insE_up e _ (h.1.sublist List.filter_sublist) (fun x hx => (no x (List.mem_filter.1 hx).1).1), fun x => ?_⟩
    rw [insE_mem, List.mem_filter, h.2]
    have top : TopE (e :: S) e := ⟨by simp, fun y hy => by
      rcases List.mem_cons.1 hy with a | a
      · rw [a]; exact cl_irr hU he
      · rcases r : aheadP e y with _ | _
        · rfl
        · obtain ⟨t, ht, s⟩ := has_top hU hS a
          have et : aheadP e t = true := by
            rcases s with s | s
            · rw [s]; exact r
            · exact cl_tr hU he (hS y a) (hS t ht.1) r s
          rw [(no t ((h.2 t).2 ht)).2] at et
          cases et⟩
    constructor
    · rintro (a | ⟨a, b⟩)
      · rw [a]; exact top
      · refine ⟨by simp [a.1], fun y hy => ?_⟩
        rcases List.mem_cons.1 hy with c | c
        · rw [c]; simpa using b
        · exact a.2 y c
    · rintro ⟨hx, hm⟩
      rcases List.mem_cons.1 hx with a | a
      · exact .inl a
      · exact .inr ⟨⟨a, fun z hz => hm z (by simp [hz])⟩, by rw [hm e (by simp)]; rfl⟩
/-- Closed events, put in some order. -/
theorem puts_top {U : List EvP} (hU : closedE U = true) : ∀ (T S l : List EvP), (∀ x ∈ S, x ∈ U) → (∀ x ∈ T, x ∈ U) → ShOf S l → ShOf (T.reverse ++ S) (T.foldl putE l)
  | [], S, l, _, _, h => h
  | e :: T, S, l, hS, hT, h => by
    have := puts_top hU T (e :: S) (putE l e) (fun x hx => by
      rcases List.mem_cons.1 hx with a | a
      · rw [a]; exact hT e (by simp)
      · exact hS x a) (fun x hx => hT x (by simp [hx])) (put_top hU hS (hT e (by simp)) h)
    simpa using this
theorem shOf_nil : ShOf [] [] := ⟨List.Pairwise.nil, fun x => by simp [TopE]⟩
/-- The shelf of all: those that none follows, whatever their order. -/
theorem puts_all {U T : List EvP} (hU : closedE U = true) (hT : ∀ x ∈ T, x ∈ U) : ShOf T (T.foldl putE []) := by
  have h := puts_top hU T [] [] (by simp) hT shOf_nil
  exact ⟨h.1, fun x => (h.2 x).trans (top_same (fun y => by simp) x)⟩
/-- Shelves joined. -/
theorem join_top {U S T l m : List EvP} (hU : closedE U = true) (hS : ∀ x ∈ S, x ∈ U) (hT : ∀ x ∈ T, x ∈ U) (hl : ShOf S l) (hm : ShOf T m) : ShOf (S ++ T) (m.foldl putE l) := by
  have mT : ∀ x ∈ m, x ∈ T := fun x hx => ((hm.2 x).1 hx).1
  have h := puts_top hU m S l hS (fun x hx => hT x (mT x hx)) hl
  refine ⟨h.1, fun x => (h.2 x).trans ?_⟩
  constructor
  · rintro ⟨hx, hn⟩
    refine ⟨?_, fun y hy => ?_⟩
    · rcases List.mem_append.1 hx with a | a
      · exact List.mem_append_right _ (mT x (List.mem_reverse.1 a))
      · exact List.mem_append_left _ a
    · rcases List.mem_append.1 hy with a | a
      · exact hn y (List.mem_append_right _ a)
      · rcases r : aheadP x y with _ | _
        · rfl
        · obtain ⟨t, ht, s⟩ := has_top hU hT a
          have xU : x ∈ U := by
            rcases List.mem_append.1 hx with b | b
            · exact hT x (mT x (List.mem_reverse.1 b))
            · exact hS x b
          have xt : aheadP x t = true := by
            rcases s with s | s
            · rw [s]; exact r
            · exact cl_tr hU xU (hT y a) (hT t ht.1) r s
          have := hn t (List.mem_append_left _ (List.mem_reverse.2 ((hm.2 t).2 ht)))
          rw [xt] at this
          cases this
  · rintro ⟨hx, hn⟩
    refine ⟨?_, fun y hy => ?_⟩
    · rcases List.mem_append.1 hx with a | a
      · exact List.mem_append_right _ a
      · exact List.mem_append_left _ (List.mem_reverse.2 ((hm.2 x).2 ⟨a, fun z hz => hn z (List.mem_append_right _ hz)⟩))
    · rcases List.mem_append.1 hy with a | a
      · exact hn y (List.mem_append_right _ (mT y (List.mem_reverse.1 a)))
      · exact hn y (List.mem_append_left _ a)
end
section
open Go.RowKit Go.Lib
set_option linter.unusedSimpArgs false
set_option linter.unusedVariables false

theorem insE_first {e : EvP} : ∀ {l : List EvP}, (∀ y ∈ l, LtEv e y) → insE e l = e :: l
  | [], _ => rfl
  | x :: l, h => by unfold insE; rw [if_pos (h x (by simp))]
/-- Those that stay when it comes. -/
def keepE (l : List EvP) (e : EvP) : List EvP := l.filter (fun x => !aheadP x e)
/-- A round of the document's: what is there so far, and whether the new one is. -/
def stepD (e : EvP) (s : List EvP × Bool) (x : EvP) : List EvP × Bool :=
  let s1 := if s.2 = false ∧ LtEv e x then (s.1 ++ [e], true) else s
  if aheadP x e = true then s1 else (s1.1 ++ [x], s1.2)
def endD (e : EvP) (s : List EvP × Bool) : List EvP := if s.2 = true then s.1 else s.1 ++ [e]
theorem foldD_true (e : EvP) : ∀ (l out : List EvP), l.foldl (stepD e) (out, true) = (out ++ keepE l e, true)
  | [], out => by simp [keepE]
  | x :: l, out => by
    rw [List.foldl_cons]
    have h : stepD e (out, true) x = (out ++ keepE [x] e, true) := by
      unfold stepD keepE
      simp only [Bool.true_eq_false, false_and, if_false]
      by_cases q : aheadP x e = true
      · simp [q]
      · simp [q]
    rw [h, foldD_true e l]
    unfold keepE
    rw [show x :: l = [x] ++ l from rfl, List.filter_append, List.append_assoc]
theorem foldD_is (e : EvP) : ∀ (l out : List EvP), l.Pairwise LtEv → endD e (l.foldl (stepD e) (out, false)) = out ++ insE e (keepE l e)
  | [], out, _ => by simp [endD, keepE, insE]
  | x :: l, out, h => by
    have hp := List.pairwise_cons.1 h
    rw [List.foldl_cons]
    by_cases q : LtEv e x
    · have hs : stepD e (out, false) x = (out ++ [e] ++ keepE [x] e, true) := by
        unfold stepD keepE
        simp only [q, and_self, if_true]
        by_cases r : aheadP x e = true
        · simp [r]
        · simp [r]
      rw [hs, foldD_true]
      have hi : insE e (keepE (x :: l) e) = e :: keepE (x :: l) e := insE_first (fun y hy => by
        rcases List.mem_cons.1 (List.mem_filter.1 hy).1 with a | a
        · rw [a]; exact q
        · exact q.tr (hp.1 y a))
      rw [hi]
      unfold endD keepE
      rw [show x :: l = [x] ++ l from rfl, List.filter_append]
      simp
    · by_cases r : aheadP x e = true
      · have hs : stepD e (out, false) x = (out, false) := by
          unfold stepD
          simp only [q, and_false, if_false, r, if_true]
        have hk : keepE (x :: l) e = keepE l e := by unfold keepE; rw [List.filter_cons]; simp [r]
        rw [hs, foldD_is e l out hp.2, hk]
      · have hs : stepD e (out, false) x = (out ++ [x], false) := by
          unfold stepD
          simp only [q, and_false, if_false, if_neg r]
        have hk : keepE (x :: l) e = x :: keepE l e := by unfold keepE; rw [List.filter_cons]; simp [r]
        rw [hs, foldD_is e l _ hp.2, hk]
        conv => rhs; rw [show insE e (x :: keepE l e) = x :: insE e (keepE l e) by conv => lhs; unfold insE; rw [if_neg q]]
        simp
/-- What the document makes of it. -/
theorem putD_is {l : List EvP} {e : EvP} (h : l.Pairwise LtEv) (hs : stayE l e = false) : endD e (l.foldl (stepD e) ([], false)) = putE l e := by
  rw [foldD_is e l [] h]
  unfold putE
  rw [if_neg (by rw [hs]; decide)]
  rfl
/-- In the place that a search tells. -/
theorem insE_at {l : List EvP} {e : EvP} {i : Nat} (hi : i ≤ l.length) (lo : ∀ (p : Nat) (x : EvP), l[p]? = some x → p < i → LtEv x e) (hh : ∀ (p : Nat) (x : EvP), l[p]? = some x → i ≤ p → ¬ LtEv x e) (hd : ∀ x ∈ l, ¬ (x.n = e.n ∧ x.s = e.s)) : insE e l = l.take i ++ e :: l.drop i := by
  induction l generalizing i with
  | nil => simp [insE]
  | cons x l ih =>
    cases i with
    | zero =>
      have a := hh 0 x rfl (Nat.le_refl _)
      have b := hd x (by simp)
      unfold insE
      rw [if_pos (by unfold LtEv LtD at *; omega)]
      rfl
    | succ i =>
      have a := lo 0 x rfl (by omega)
      unfold insE
      rw [if_neg (by unfold LtEv LtD at *; omega), ih (by simpa using hi) (fun p y hy hp => lo (p + 1) y (by simpa using hy) (by omega)) (fun p y hy hp => hh (p + 1) y (by simpa using hy) (by omega)) (fun y hy => hd y (by simp [hy]))]
      rfl
theorem keep_up {l : List EvP} {e : EvP} (h : l.Pairwise LtEv) : (keepE l e).Pairwise LtEv := h.sublist List.filter_sublist
theorem keep_sub {l : List EvP} {e x : EvP} (h : x ∈ keepE l e) : x ∈ l := (List.mem_filter.1 h).1
theorem stay_no {l : List EvP} {e : EvP} (h : stayE l e = false) : ∀ x ∈ l, ¬ (x.n = e.n ∧ x.s = e.s) ∧ aheadP e x = false := fun x hx => by
  refine ⟨fun q => ?_, ?_⟩
  · rw [stay_iff.2 ⟨x, hx, .inl q⟩] at h; cases h
  · rcases r : aheadP e x with _ | _
    · rfl
    · rw [stay_iff.2 ⟨x, hx, .inr r⟩] at h; cases h
/-- What is put keeps the path of those that stand. -/
theorem put_path {l : List EvP} {e : EvP} {p : List UInt8} (h : ∀ x ∈ l, x.p = p) (he : e.p = p) : ∀ x ∈ putE l e, x.p = p := fun x hx => by
  unfold putE at hx
  split at hx
  · exact h x hx
  · rcases (insE_mem e x _).1 hx with a | a
    · rw [a]; exact he
    · exact h x (List.mem_filter.1 a).1
/-- Shelves of one path, or none. -/
def onePath (a b : List EvP) : Prop := ∀ x ∈ a, ∀ y ∈ b, x.p = y.p
instance (a b : List EvP) : Decidable (onePath a b) := by unfold onePath; exact inferInstance
/-- What is joined. -/
def shJoinE (a b : List EvP) : Int × List EvP := if ShOk a ∧ ShOk b ∧ onePath a b then (0, b.foldl putE a) else (2, [])
theorem puts_ok : ∀ (b a : List EvP), ShOk a → (∀ e ∈ b, chkEv e = 0) → onePath a b → (∀ x ∈ b, ∀ y ∈ b, x.p = y.p) → ShOk (b.foldl putE a)
  | [], a, h, _, _, _ => h
  | e :: b, a, h, hb, ho, hp => by
    rw [List.foldl_cons]
    refine puts_ok b _ (put_ok h (hb e (by simp)) (fun x hx => ho x hx e (by simp))) (fun x hx => hb x (by simp [hx])) (fun x hx y hy => ?_) (fun x hx y hy => hp x (by simp [hx]) y (by simp [hy]))
    rw [put_path (p := e.p) (fun x hx => ho x hx e (by simp)) rfl x hx]
    exact hp e (by simp) y (by simp [hy])
/-- An event is on the shelf just if none follows it. -/
theorem top_has {U T l : List EvP} (hU : closedE U = true) (hT : ∀ x ∈ T, x ∈ U) (h : ShOf T l) {x : EvP} (hx : x ∈ T) : l.any (fun y => decide (y.n = x.n ∧ y.s = x.s)) = !T.any (fun y => aheadP x y) := by
  rcases q : T.any (fun y => aheadP x y) with _ | _
  · have top : TopE T x := ⟨hx, fun y hy => by
      rcases r : aheadP x y with _ | _
      · rfl
      · rw [List.any_eq_true.2 ⟨y, hy, r⟩] at q; cases q⟩
    exact List.any_eq_true.2 ⟨x, (h.2 x).2 top, by simp⟩
  · obtain ⟨y, hy, r⟩ := List.any_eq_true.1 q
    rcases s : l.any (fun y => decide (y.n = x.n ∧ y.s = x.s)) with _ | _
    · rfl
    · obtain ⟨z, hz, t⟩ := List.any_eq_true.1 s
      have tz := (h.2 z).1 hz
      have d := of_decide_eq_true t
      have e : z = x := cl_dot hU (hT z tz.1) (hT x hx) d.1 d.2
      rw [e] at tz
      rw [tz.2 y hy] at r
      cases r
/-- Those of one path, put in any order and any number of times: one shelf. -/
theorem order_same {U T V : List EvP} (hU : closedE U = true) (hT : ∀ x ∈ T, x ∈ U) (h : ∀ x, x ∈ T ↔ x ∈ V) : T.foldl putE [] = V.foldl putE [] :=
  shOf_same h (puts_all hU hT) (puts_all hU (fun x hx => hT x ((h x).2 hx)))
/-- Shelves joined, whichever comes first. -/
theorem joins_same {U L R B : List EvP} (hU : closedE U = true) (hL : ∀ x ∈ L, x ∈ U) (hR : ∀ x ∈ R, x ∈ U) (hB : ∀ x, x ∈ B ↔ x ∈ L ∨ x ∈ R) : (R.foldl putE []).foldl putE (L.foldl putE []) = B.foldl putE [] :=
  shOf_same (fun x => by rw [List.mem_append, hB]) (join_top hU hL hR (puts_all hU hL) (puts_all hU hR)) (puts_all hU (fun x hx => ((hB x).1 hx).elim (hL x) (hR x)))
end
section
open Go.RowKit Go.Lib
set_option linter.unusedSimpArgs false
set_option linter.unusedVariables false

theorem shOk_one {f : EvP} : ShOk [f] ↔ chkEv f = 0 := by
  constructor
  · exact fun h => h.1 f (by simp)
  · intro h
    refine ⟨fun e he => ?_, fun e he g hg => ?_, List.pairwise_singleton _ _, fun e he g hg => ?_⟩
    · rw [List.mem_singleton.1 he]; exact h
    · rw [List.mem_singleton.1 he, List.mem_singleton.1 hg]
    · rw [List.mem_singleton.1 he, List.mem_singleton.1 hg]
      exact ahead_no h h (own_out h)
theorem shJoin_noA {a b : List EvP} (h : ¬ ShOk a) : shJoinE a b = (2, []) := by unfold shJoinE; rw [if_neg (fun q => h q.1)]
theorem shJoin_noB {a b : List EvP} (h : ¬ ShOk b) : shJoinE a b = (2, []) := by unfold shJoinE; rw [if_neg (fun q => h q.2.1)]
theorem shJoin_no1 {es : List EvP} {f : EvP} (h : chkEv f ≠ 0) : shJoinE es [f] = (2, []) := shJoin_noB (fun q => h (shOk_one.1 q))
theorem shJoin_path {a b : List EvP} {x y : EvP} (hx : a[0]? = some x) (hy : b[0]? = some y) (h : x.p ≠ y.p) : shJoinE a b = (2, []) := by
  unfold shJoinE
  rw [if_neg (fun q => h (q.2.2 x (List.mem_of_getElem? hx) y (List.mem_of_getElem? hy)))]
theorem one_path {a b : List EvP} (ha : ShOk a) (hb : ShOk b) (hp : ∀ x y, a[0]? = some x → b[0]? = some y → x.p = y.p) : onePath a b := by
  intro u hu v hv
  have ha0 : 0 < a.length := List.length_pos_of_mem hu
  have hb0 : 0 < b.length := List.length_pos_of_mem hv
  have e := hp _ _ (List.getElem?_eq_getElem ha0) (List.getElem?_eq_getElem hb0)
  rw [ha.2.1 u hu _ (List.getElem_mem ha0), e, hb.2.1 _ (List.getElem_mem hb0) v hv]
theorem shJoin_yes {a b : List EvP} (ha : ShOk a) (hb : ShOk b) (hp : ∀ x y, a[0]? = some x → b[0]? = some y → x.p = y.p) : shJoinE a b = (0, b.foldl putE a) := by
  unfold shJoinE
  rw [if_pos ⟨ha, hb, one_path ha hb hp⟩]
theorem shPut_yes {es : List EvP} {f : EvP} (ha : ShOk es) (hf : chkEv f = 0) (hp : ∀ x, es[0]? = some x → x.p = f.p) : shJoinE es [f] = (0, putE es f) :=
  shJoin_yes ha (shOk_one.2 hf) (fun x y hx hy => by
    simp at hy
    rw [← hy]
    exact hp x hx)
theorem shE_zero {l : List EvP} : shE l = 0 ↔ ShOk l := by unfold shE; split <;> simp_all
theorem shE_two (l : List EvP) : shE l = 0 ∨ shE l = 2 := by unfold shE; split <;> simp
theorem EvsR.up {w : World} {xs : List EvT} {es : List EvP} (h : EvsR w xs es) (hu : es.Pairwise LtEv) : UpE xs := by
  unfold UpE
  rw [List.pairwise_iff_getElem] at hu ⊢
  intro i j hi hj hij
  have a := h.2 i _ _ (List.getElem?_eq_getElem hi) (List.getElem?_eq_getElem (by rw [← h.1]; exact hi))
  have b := h.2 j _ _ (List.getElem?_eq_getElem hj) (List.getElem?_eq_getElem (by rw [← h.1]; exact hj))
  have q := hu i j (by rw [← h.1]; exact hi) (by rw [← h.1]; exact hj) hij
  have a1 := a.n; have a2 := a.s; have b1 := b.n; have b2 := b.s
  unfold LtEv LtD at *
  omega
theorem EvsR.inE {w : World} {xs : List EvT} {es : List EvP} (h : EvsR w xs es) (n s : Int) : inE xs n s = es.any (fun x => decide (x.n = n ∧ x.s = s)) := by
  unfold Go.Proofs.YtdfapiffalmjcaaGreatDoor.inE
  rw [Bool.eq_iff_iff, List.any_eq_true, List.any_eq_true]
  constructor
  · rintro ⟨x, hx, q⟩
    obtain ⟨i, hi⟩ := List.getElem?_of_mem hx
    obtain ⟨x2, e, ex, ee, rx⟩ := h.at_ (show i < xs.length from (List.getElem?_eq_some_iff.1 hi).1)
    rw [hi] at ex
    cases ex
    refine ⟨e, List.mem_of_getElem? ee, ?_⟩
    rw [← rx.n, ← rx.s]
    exact q
  · rintro ⟨e, he, q⟩
    obtain ⟨i, hi⟩ := List.getElem?_of_mem he
    obtain ⟨x, e2, ex, ee, rx⟩ := h.at_ (show i < xs.length from by rw [h.1]; exact (List.getElem?_eq_some_iff.1 hi).1)
    rw [hi] at ee
    cases ee
    refine ⟨x, List.mem_of_getElem? ex, ?_⟩
    rw [rx.n, rx.s]
    exact q
theorem any_or {α : Type} (p q : α → Bool) : ∀ l : List α, l.any (fun x => p x || q x) = (l.any p || l.any q)
  | [] => rfl
  | x :: l => by simp only [List.any_cons, any_or p q l]; cases p x <;> cases q x <;> simp
theorem stay_or (es : List EvP) (f : EvP) : stayE es f = (es.any (fun x => decide (x.n = f.n ∧ x.s = f.s)) || es.any (fun e => aheadP f e)) := by
  unfold stayE
  rw [any_or]
theorem put_stays {es : List EvP} {f : EvP} (h : stayE es f = true) : putE es f = es := by unfold putE; rw [if_pos h]
theorem EvsR.ins {w : World} {xs : List EvT} {es : List EvP} {y : EvT} {f : EvP} (h : EvsR w xs es) (r : EvR w y f) (i : Nat) : EvsR w (xs.take i ++ y :: xs.drop i) (es.take i ++ f :: es.drop i) := by
  have h1 := h.1
  refine ⟨by simp [h1], fun j x e hx he => ?_⟩
  by_cases q : j < i
  · by_cases q2 : j < xs.length
    · rw [List.getElem?_append_left (by rw [List.length_take]; omega), List.getElem?_take, if_pos q] at hx
      rw [List.getElem?_append_left (by rw [List.length_take]; omega), List.getElem?_take, if_pos q] at he
      exact h.2 j x e hx he
    · rw [List.take_of_length_le (by omega), List.drop_of_length_le (by omega)] at hx
      rw [List.take_of_length_le (by omega), List.drop_of_length_le (by omega)] at he
      rw [List.getElem?_append_right (by omega)] at hx
      rw [List.getElem?_append_right (by omega)] at he
      rw [h1] at hx
      cases hk : j - es.length with
      | zero => rw [hk] at hx he; simp at hx he; rw [← hx, ← he]; exact r
      | succ m => rw [hk] at hx; simp at hx
  · by_cases q3 : xs.length < i
    · rw [List.take_of_length_le (by omega), List.drop_of_length_le (by omega)] at hx
      rw [List.take_of_length_le (by omega), List.drop_of_length_le (by omega)] at he
      rw [List.getElem?_append_right (by omega)] at hx
      rw [List.getElem?_append_right (by omega)] at he
      rw [h1] at hx
      cases hk : j - es.length with
      | zero => rw [hk] at hx he; simp at hx he; rw [← hx, ← he]; exact r
      | succ m => rw [hk] at hx; simp at hx
    · have l1 : (xs.take i).length = i := by rw [List.length_take]; omega
      have l2 : (es.take i).length = i := by rw [List.length_take]; omega
      rw [List.getElem?_append_right (by omega), l1] at hx
      rw [List.getElem?_append_right (by omega), l2] at he
      cases hk : j - i with
      | zero => rw [hk] at hx he; simp at hx he; rw [← hx, ← he]; exact r
      | succ m =>
        rw [hk] at hx he
        rw [List.getElem?_cons_succ, List.getElem?_drop] at hx he
        exact h.2 _ x e hx he
/-- It comes into the place that the search tells. -/
theorem put_ins {w : World} {ys : List EvT} {es : List EvP} {y : EvT} {f : EvP} {i : Nat} (h : EvsR w ys (keepE es f)) (r : EvR w y f) (hs : stayE es f = false) (hi : i ≤ ys.length) (lo : LoE ys y.n y.s i) (hh : HiE ys y.n y.s i) : EvsR w (ys.take i ++ y :: ys.drop i) (putE es f) := by
  have e : putE es f = (keepE es f).take i ++ f :: (keepE es f).drop i := by
    unfold putE
    rw [if_neg (by rw [hs]; decide)]
    have at_ : ∀ (p : Nat) (x : EvP), (keepE es f)[p]? = some x → ∃ t, ys[p]? = some t ∧ t.n = x.n ∧ t.s = x.s := fun p x hx => by
      obtain ⟨t, e2, ex, ee, rx⟩ := h.at_ (show p < ys.length from by rw [h.1]; exact (List.getElem?_eq_some_iff.1 hx).1)
      rw [hx] at ee
      cases ee
      exact ⟨t, ex, rx.n, rx.s⟩
    refine insE_at (l := keepE es f) (by rw [← h.1]; exact hi) (fun p x hx hp => ?_) (fun p x hx hp => ?_) (fun x hx => (stay_no hs x (keep_sub hx)).1)
    · obtain ⟨t, ht, a, b⟩ := at_ p x hx
      have := lo p t ht hp
      rw [a, b, r.n, r.s] at this
      exact this
    · obtain ⟨t, ht, a, b⟩ := at_ p x hx
      have := hh p t ht hp
      rw [a, b, r.n, r.s] at this
      exact this
  rw [e]
  exact h.ins r i
theorem put_len (es : List EvP) (f : EvP) : (putE es f).length ≤ es.length + 1 := by
  unfold putE
  split
  · omega
  · have l : ∀ l : List EvP, (insE f l).length = l.length + 1 := fun l => by
      induction l with
      | nil => rfl
      | cons x l ih => unfold insE; split <;> simp [ih]
    rw [l]
    have := List.length_filter_le (fun x => !aheadP x f) es
    omega
theorem put_mem {es : List EvP} {f x : EvP} (h : x ∈ putE es f) : x = f ∨ x ∈ es := by
  unfold putE at h
  split at h
  · exact .inr h
  · rcases (insE_mem f x _).1 h with a | a
    · exact .inl a
    · exact .inr (List.mem_filter.1 a).1
theorem puts_mem : ∀ {b a : List EvP} {x : EvP}, x ∈ b.foldl putE a → x ∈ a ∨ x ∈ b
  | [], a, x, h => .inl h
  | f :: b, a, x, h => by
    rcases puts_mem (b := b) (a := putE a f) h with q | q
    · rcases put_mem q with r | r
      · exact .inr (by rw [r]; simp)
      · exact .inl r
    · exact .inr (by simp [q])
theorem puts_len : ∀ (b a : List EvP), (b.foldl putE a).length ≤ a.length + b.length
  | [], a => by simp
  | f :: b, a => by
    have := puts_len b (putE a f)
    have := put_len a f
    rw [List.foldl_cons, List.length_cons]
    omega
end
section
open Go.RowKit Go.Lib
set_option linter.unusedSimpArgs false
set_option linter.unusedVariables false

/-- Up to the k-th all is well, but for who is ahead. -/
def ShTo (es : List EvP) (k : Nat) : Prop := (∀ e ∈ es.take k, chkEv e = 0 ∧ ∀ f, es[0]? = some f → e.p = f.p) ∧ (es.take k).Pairwise LtEv
theorem shTo_zero (es : List EvP) : ShTo es 0 := ⟨fun e h => by simp at h, by simp⟩
theorem shE_no {es : List EvP} (h : ¬ ShOk es) : shE es = 2 := if_neg h
theorem shE_yes {es : List EvP} (h : ShOk es) : shE es = 0 := if_pos h
theorem sh_no_chk {es : List EvP} {k : Nat} {e : EvP} (he : es[k]? = some e) (h : chkEv e ≠ 0) : shE es = 2 := shE_no (fun q => h (q.1 e (List.mem_of_getElem? he)))
theorem sh_no_path {es : List EvP} {k j : Nat} {e f : EvP} (he : es[k]? = some e) (hf : es[j]? = some f) (h : ¬ e.p = f.p) : shE es = 2 := shE_no (fun q => h (q.2.1 e (List.mem_of_getElem? he) f (List.mem_of_getElem? hf)))
theorem sh_no_lt {es : List EvP} {k j : Nat} {e f : EvP} (he : es[k]? = some e) (hf : es[j]? = some f) (hj : j < k) (h : ¬ LtEv f e) : shE es = 2 := shE_no (fun q => by
  obtain ⟨l1, e1⟩ := List.getElem?_eq_some_iff.1 he
  obtain ⟨l2, e2⟩ := List.getElem?_eq_some_iff.1 hf
  have := List.pairwise_iff_getElem.1 q.2.2.1 j k l2 l1 hj
  rw [e1, e2] at this
  exact h this)
theorem sh_no_ahead {es : List EvP} {k : Nat} {e : EvP} (he : es[k]? = some e) (h : es.any (fun x => aheadP e x) = true) : shE es = 2 := shE_no (fun q => by
  obtain ⟨x, hx, ha⟩ := List.any_eq_true.1 h
  have := q.2.2.2 e (List.mem_of_getElem? he) x hx
  rw [this] at ha
  cases ha)
theorem shTo_next {es : List EvP} {k : Nat} {e : EvP} (h : ShTo es k) (he : es[k]? = some e) (hc : chkEv e = 0) (hp : ∀ f, es[0]? = some f → e.p = f.p) (hl : k = 0 ∨ ∀ d, es[k - 1]? = some d → LtEv d e) : ShTo es (k + 1) := by
  have et : es.take (k + 1) = es.take k ++ [e] := by rw [List.take_add_one, he]; rfl
  refine ⟨fun x hx => ?_, ?_⟩
  · rw [et] at hx
    rcases List.mem_append.1 hx with q | q
    · exact h.1 x q
    · simp at q; subst q; exact ⟨hc, hp⟩
  · rw [et, List.pairwise_append]
    refine ⟨h.2, List.pairwise_singleton _ _, fun x hx y hy => ?_⟩
    simp at hy
    subst hy
    rcases hl with rfl | hl
    · simp at hx
    · have hk := (List.getElem?_eq_some_iff.1 he).1
      obtain ⟨i, hi⟩ := List.getElem?_of_mem hx
      have hik := (List.getElem?_eq_some_iff.1 hi).1
      rw [List.length_take] at hik
      by_cases k0 : k = 0
      · subst k0; simp at hx
      · obtain ⟨d, hd⟩ : ∃ d, es[k - 1]? = some d := ⟨_, List.getElem?_eq_getElem (by omega)⟩
        have hde := hl d hd
        by_cases q : i = k - 1
        · subst q
          rw [List.getElem?_take, if_pos (by omega), hd] at hi
          cases hi
          exact hde
        · have hd2 : (es.take k)[k - 1]? = some d := by rw [List.getElem?_take, if_pos (by omega)]; exact hd
          obtain ⟨l1, e1⟩ := List.getElem?_eq_some_iff.1 hi
          obtain ⟨l2, e2⟩ := List.getElem?_eq_some_iff.1 hd2
          have := List.pairwise_iff_getElem.1 h.2 i (k - 1) l1 l2 (by omega)
          rw [e1, e2] at this
          exact this.tr hde
theorem sh_done {es : List EvP} (h : ShTo es es.length) (ha : ∀ e ∈ es, es.any (fun x => aheadP e x) = false) : shE es = 0 := by
  have et : es.take es.length = es := List.take_length
  unfold ShTo at h
  rw [et] at h
  refine shE_yes ⟨fun e he => (h.1 e he).1, fun e he f hf => ?_, h.2, fun e he f hf => ?_⟩
  · obtain ⟨d, hd⟩ : ∃ d, es[0]? = some d := ⟨_, List.getElem?_eq_getElem (List.length_pos_of_mem he)⟩
    rw [(h.1 e he).2 d hd, (h.1 f hf).2 d hd]
  · have := List.any_eq_false.1 (ha e he) f hf
    simpa using this
end
section
open Go.RowKit Go.Lib
set_option linter.unusedSimpArgs false
set_option linter.unusedVariables false


/-- What a search by a func tells: the first of which it is so; -1: none. -/
def IdxP (es : List EvP) (p : EvP → Bool) (v : Int) : Prop := (v = -1 ∧ ∀ e ∈ es, p e = false) ∨ ∃ (k : Nat) (e : EvP), v = k ∧ es[k]? = some e ∧ p e = true ∧ ∀ e ∈ es.take k, p e = false
theorem IdxP.any {es : List EvP} {p : EvP → Bool} {v : Int} (h : IdxP es p v) : es.any p = decide (0 ≤ v) := by
  rcases h with ⟨rfl, h⟩ | ⟨k, e, rfl, hk, hp, _⟩
  · rw [List.any_eq_false.2 (fun e he => by rw [h e he]; decide)]
    rfl
  · rw [List.any_eq_true.2 ⟨e, List.mem_of_getElem? hk, hp⟩]
    exact (decide_eq_true (by omega)).symm
theorem all_take_no {es : List EvP} {p : EvP → Bool} {k : Nat} {e : EvP} (h : ∀ e ∈ es.take k, p e = false) (hk : es[k]? = some e) (he : p e = false) : ∀ e ∈ es.take (k + 1), p e = false := by
  intro x hx
  rw [List.take_add_one, hk] at hx
  rcases List.mem_append.1 hx with q | q
  · exact h x q
  · simp at q
    subst q
    exact he

set_option maxRecDepth 100000 in
set_option maxHeartbeats 4000000 in
theorem shahead1_any (w : World) (gp : Nat) (x y : EvT) (e f : EvP) (hp : w.heap[gp]? = some (.cells #[.int .i64 y.n, .int .i64 y.s, .string y.p, .int .i64 y.k, .int .i64 y.m, .slice y.A y.l y.c, .slice y.B y.bl y.bc] 30 (0, 0))) (hx : EvR w x e) (hy : EvR w y f) (hs : EvSm e) (ht : EvSm f) :
    Calls Tryz.prog 72 #[.agg #[.int .i64 x.n, .int .i64 x.s, .string x.p, .int .i64 x.k, .int .i64 x.m, .slice x.A x.l x.c, .slice x.B x.bl x.bc], .pointer (some ⟨gp, 0, none⟩)] w fun r w' => r = .returned (.bool (aheadP f e)) ∧ Chg [] w w' := by
  obtain ⟨w1, hw1, c1, b1⟩ := news1 w (.cells #[.int .i64 x.n, .int .i64 x.s, .string x.p, .int .i64 x.k, .int .i64 x.m, .slice x.A x.l x.c, .slice x.B x.bl x.bc] 30)
  have W1 := Lib.hid hw1
  have C1 := Lib.hid c1
  have HX := Lib.hid (hx.chg c1)
  have HY := Lib.hid (hy.chg c1)
  have HS := Lib.hid (And.intro hs ht)
  have p0 := c1.at_ hp (by simp)
  have y0 := cell_of p0 0
  have y1 := cell_of p0 1
  have y2 := cell_of p0 2
  have y3 := cell_of p0 3
  have y4 := cell_of p0 4
  have y5 := cell_of p0 5
  have y6 := cell_of p0 6
  have z0 := cell_of b1 0
  have z1 := cell_of b1 1
  have z2 := cell_of b1 2
  have z3 := cell_of b1 3
  have z4 := cell_of b1 4
  have z5 := cell_of b1 5
  have z6 := cell_of b1 6
  simp only [List.getElem?_toArray, List.getElem?_cons_succ, List.getElem?_cons_zero] at y0 y1 y2 y3 y4 y5 y6 z0 z1 z2 z3 z4 z5 z6
  clear hw1 c1 b1 hp hx hy hs ht p0
  generalize hv : aheadP f e = v at *
  have HV := Lib.hid hv
  clear hv
  go_enter Tryz.func72, Tryz.ntmps72
  go_upto_region 1 with fail
  rw [← W1.out]
  generalize w.heap.size = g1 at *
  clear W1
  go_wp2_with fail
  clear y0 y1 y2 y3 y4 y5 y6 z0 z1 z2 z3 z4 z5 z6
  refine (evahead_any w1 y x f e HY.out HX.out HS.out.2 HS.out.1).mono ?_
  rintro r w2 ⟨rfl, hc⟩
  rw [HV.out]
  replace C1 := Lib.hid (C1.out.trans hc)
  clear hc
  go_wp2
  go_ret
  exact ⟨rfl, C1.out⟩

set_option maxRecDepth 100000 in
set_option maxHeartbeats 4000000 in
theorem shindex_any (w : World) (A : Option Addr) (c : Nat) (xs : List EvT) (es : List EvP) (gp : Nat) (y : EvT) (f : EvP) (h : RdK evTy w A xs.length xs) (hx : EvsR w xs es) (hn : xs.length ≤ 100000) (hp : w.heap[gp]? = some (.cells #[.int .i64 y.n, .int .i64 y.s, .string y.p, .int .i64 y.k, .int .i64 y.m, .slice y.A y.l y.c, .slice y.B y.bl y.bc] 30 (0, 0))) (hy : EvR w y f) (hs : ∀ e ∈ es, EvSm e) (ht : EvSm f) :
    Calls Tryz.prog 97 #[.slice A xs.length c, .func (.func 72) #[] #[.pointer (some ⟨gp, 0, none⟩)]] w fun r w' => (∃ v : Int, r = .returned (.int .i64 v) ∧ IdxP es (fun e => aheadP f e) v) ∧ Chg [] w w' := by
  have HA := Lib.hid h
  have HX := Lib.hid hx
  have HN := Lib.hid hn
  have HCALL := Lib.hid (fun (wr : World) (RC : Chg [] w wr) (x : EvT) (e : EvP) (rx : EvR w x e) (he : e ∈ es) => shahead1_any wr gp x y e f (RC.at_ hp (by simp)) (rx.chg RC) (hy.chg RC) (hs e he) ht)
  have CLEARS : True := trivial
  clear CLEARS h hx hn
  go_enter Tryz.func97, Tryz.ntmps97
  go_wp2
  go_loopw [5, 8] (fun v5 v8 wr => ∃ (k : Nat), k ≤ xs.length ∧ v8 = .int .i64 k ∧ Hid (∀ e ∈ es.take k, (fun e => aheadP f e) e = false) ∧ Hid (Chg [] w wr)) (fun _ v8 _ => xs.length - (RowKit.intOf v8).toNat)
  case atStart => exact ⟨0, Nat.zero_le _, rfl, Lib.hid (by simp), Chg.refl _ _⟩
  case round =>
    obtain ⟨k, hk, rfl, FN_, RC⟩ := hrel
    have i0 : (0 : Int) ≤ (k : Int) := by omega
    by_cases hlt : k < xs.length
    · have i1 : (k : Int) < (xs.length : Int) := by omega
      have i3 : IntKind.i64.wrap ((k : Int) + 1) = (k : Int) + 1 := IntWalk.i64_in _ (by have := HN.out; omega)
      obtain ⟨x, e, ex, ee, rx⟩ := HX.out.at_ hlt
      obtain ⟨g, o, eA, _⟩ := HA.out.line (by omega)
      subst eA
      obtain ⟨z0, z1, z2, z3, z4, z5, z6⟩ := evCells (HA.out.chg RC.out (by simp)) ex
      have EE := Lib.hid ee
      have CL := Lib.hid (HCALL.out wr RC.out x e rx (List.mem_of_getElem? ee))
      clear ex ee rx
      go_wp2_with fail
      refine CL.out.mono ?_
      rintro r w2 ⟨rfl, hc⟩
      have C2 := Lib.hid (RC.out.trans hc)
      clear hc CL z0 z1 z2 z3 z4 z5 z6
      rcases hb : (fun e => aheadP f e) e with _ | _
      · have FN1 := Lib.hid (all_take_no FN_.out EE.out hb)
        dsimp only at hb
        rw [hb]
        clear hb FN_
        go_wp2
        go_round
        case rel => exact ⟨k + 1, by omega, by go_num, FN1, C2⟩
        case measure => simp [RowKit.intOf]; omega
      · have AN : Hid (IdxP es (fun e => aheadP f e) (k : Int)) := Lib.hid (.inr ⟨k, e, rfl, EE.out, hb, FN_.out⟩)
        dsimp only at hb
        rw [hb]
        clear hb FN_
        go_wp2
        go_ret
        exact ⟨⟨k, rfl, AN.out⟩, C2.out⟩
    · obtain rfl : k = xs.length := by omega
      have ET : es.take xs.length = es := by rw [HX.out.1]; exact List.take_length
      rw [ET] at FN_
      clear ET
      have i1 : ¬ (xs.length : Int) < (xs.length : Int) := by omega
      go_wp2
      go_ret
      exact ⟨⟨-1, rfl, .inl ⟨rfl, FN_.out⟩⟩, RC.out⟩

set_option maxRecDepth 100000 in
set_option maxHeartbeats 4000000 in
theorem shcontains_any (w : World) (A : Option Addr) (c : Nat) (xs : List EvT) (es : List EvP) (gp : Nat) (y : EvT) (f : EvP) (h : RdK evTy w A xs.length xs) (hx : EvsR w xs es) (hn : xs.length ≤ 100000) (hp : w.heap[gp]? = some (.cells #[.int .i64 y.n, .int .i64 y.s, .string y.p, .int .i64 y.k, .int .i64 y.m, .slice y.A y.l y.c, .slice y.B y.bl y.bc] 30 (0, 0))) (hy : EvR w y f) (hs : ∀ e ∈ es, EvSm e) (ht : EvSm f) :
    Calls Tryz.prog 58 #[.slice A xs.length c, .func (.func 72) #[] #[.pointer (some ⟨gp, 0, none⟩)]] w fun r w' => r = .returned (.bool (es.any (fun e => aheadP f e))) ∧ Chg [] w w' := by
  have IX := Lib.hid (shindex_any w A c xs es gp y f h hx hn hp hy hs ht)
  clear h hx hn
  generalize hv : es.any (fun e => aheadP f e) = v
  have HV := Lib.hid hv
  clear hv
  go_enter Tryz.func58, Tryz.ntmps58
  go_wp2_with fail
  refine IX.out.mono ?_
  rintro e w2 ⟨⟨u, rfl, hu⟩, hc⟩
  have C := Lib.hid hc
  have HU : Hid (decide ((0 : Int) ≤ u) = v) := Lib.hid (by rw [← HV.out]; exact hu.any.symm)
  clear hu hc
  go_wp2
  go_ret
  exact ⟨by rw [HU.out]; rfl, C.out⟩

set_option maxRecDepth 100000 in
set_option maxHeartbeats 4000000 in
/-- Is an event ahead of one of these? -/
theorem shahead_any (w : World) (A : Option Addr) (c : Nat) (xs : List EvT) (es : List EvP) (y : EvT) (f : EvP) (h : RdK evTy w A xs.length xs) (hx : EvsR w xs es) (hn : xs.length ≤ 100000) (hy : EvR w y f) (hs : ∀ e ∈ es, EvSm e) (ht : EvSm f) :
    Calls Tryz.prog 37 #[.agg #[.int .i64 y.n, .int .i64 y.s, .string y.p, .int .i64 y.k, .int .i64 y.m, .slice y.A y.l y.c, .slice y.B y.bl y.bc], .slice A xs.length c] w fun r w' => r = .returned (.bool (es.any (fun e => aheadP f e))) ∧ Chg [] w w' := by
  obtain ⟨w1, hw1, c1, b1⟩ := news1 w (.cells #[.int .i64 y.n, .int .i64 y.s, .string y.p, .int .i64 y.k, .int .i64 y.m, .slice y.A y.l y.c, .slice y.B y.bl y.bc] 30)
  have W1 := Lib.hid hw1
  have C1 := Lib.hid c1
  have CC := Lib.hid (shcontains_any w1 A c xs es w.heap.size y f (h.chg c1 (by simp)) (hx.chg c1) hn b1 (hy.chg c1) hs ht)
  clear hw1 c1 b1 h hx hn hy hs ht
  generalize hv : es.any (fun e => aheadP f e) = v at *
  go_enter Tryz.func37, Tryz.ntmps37
  go_upto_region 1 with fail
  rw [← W1.out]
  generalize w.heap.size = g1 at *
  clear W1 hv
  go_wp2_with fail
  refine CC.out.mono ?_
  rintro r w2 ⟨rfl, hc⟩
  replace C1 := Lib.hid (C1.out.trans hc)
  clear hc CC
  go_wp2
  go_ret
  exact ⟨rfl, C1.out⟩
end
section
open Go.RowKit Go.Lib
set_option linter.unusedSimpArgs false
set_option linter.unusedVariables false


theorem strOf_lists (l : List UInt8) : (strOf l).toList = l := by rw [ByteArray.toList_eq]; rfl
theorem strOf_ne3s {a b : List UInt8} (h : a ≠ b) : ¬ (strOf a).toList = (strOf b).toList := by rw [strOf_lists, strOf_lists]; exact h
set_option maxRecDepth 100000 in
set_option maxHeartbeats 16000000 in
theorem shcheck_any (w : World) (A : Option Addr) (c : Nat) (xs : List EvT) (es : List EvP) (h : RdK evTy w A xs.length xs) (hx : EvsR w xs es) (hn : xs.length ≤ 100000) (hs : ∀ e ∈ es, EvSm e) :
    Calls Tryz.prog 15 #[.slice A xs.length c] w fun r w' => r = .returned (.int .i64 (shE es)) ∧ Chg [] w w' := by

  have HX := Lib.hid hx
  have HN := Lib.hid hn
  have HS := Lib.hid hs
  have HA := Lib.hid h
  clear h hx hn hs
  go_enter Tryz.func15, Tryz.ntmps15
  go_wp2
  go_loopw [9] (fun v9 wr => ∃ (k : Nat), k ≤ xs.length ∧ v9 = .int .i64 k ∧ Hid (ShTo es k) ∧ Hid (Chg [] w wr)) (fun v9 _ => xs.length - (RowKit.intOf v9).toNat)
  case atStart => exact ⟨0, Nat.zero_le _, rfl, Lib.hid (shTo_zero _), Chg.refl _ _⟩
  case round =>
    obtain ⟨k, hk, rfl, ST, PC⟩ := hrel
    have j0 : (0 : Int) ≤ (k : Int) := by omega
    by_cases hlt : k < xs.length
    · have j1 : (k : Int) < (xs.length : Int) := by omega
      have j3 : IntKind.i64.wrap ((k : Int) + 1) = (k : Int) + 1 := IntWalk.i64_in _ (by have := HN.out; omega)
      obtain ⟨g3, o3, eA, _⟩ := HA.out.line (by omega)
      subst eA
      obtain ⟨x, e, ex, ee, rx⟩ := HX.out.at_ hlt
      obtain ⟨y0, f0, ey0, ef0, ry0⟩ := HX.out.at_ (show 0 < xs.length by omega)
      obtain ⟨z0, z1, z2, z3, z4, z5, z6⟩ := evCells (HA.out.chg PC.out (by simp)) ex
      have EX := Lib.hid ex
      have EE := Lib.hid ee
      have RX1 := Lib.hid rx
      have EF0 := Lib.hid ef0
      have XP : Hid (x.p = strOf e.p ∧ y0.p = strOf f0.p) := Lib.hid ⟨rx.p, ry0.p⟩
      have EY0 := Lib.hid ey0
      have ES1 := Lib.hid (HS.out e (List.mem_of_getElem? ee))
      clear ex ee rx ey0 ef0 ry0
      obtain ⟨w5, hw5, c5, b5⟩ := news1 wr (.cells #[.int .i64 x.n, .int .i64 x.s, .string x.p, .int .i64 x.k, .int .i64 x.m, .slice x.A x.l x.c, .slice x.B x.bl x.bc] 30)
      have W5 := Lib.hid hw5
      have B5 := Lib.hid b5
      replace PC := Lib.hid (PC.out.trans c5)
      clear hw5 c5 b5
      go_upto_region 4 with fail
      rw [← W5.out]
      generalize wr.heap.size = g6 at *
      clear W5 z0 z1 z2 z3 z4 z5 z6
      have HB : Hid (∀ w', Chg [] w5 w' → (w'.cell? ⟨g6, 0, none⟩ = some (.int .i64 x.n) ∧ w'.cell? ⟨g6, 1, none⟩ = some (.int .i64 x.s) ∧ w'.cell? ⟨g6, 2, none⟩ = some (.string x.p) ∧ w'.cell? ⟨g6, 3, none⟩ = some (.int .i64 x.k) ∧ w'.cell? ⟨g6, 4, none⟩ = some (.int .i64 x.m) ∧ w'.cell? ⟨g6, 5, none⟩ = some (.slice x.A x.l x.c) ∧ w'.cell? ⟨g6, 6, none⟩ = some (.slice x.B x.bl x.bc))) := Lib.hid (fun w' hc => by
        have b := hc.at_ B5.out (by simp)
        exact ⟨cell_of b 0, cell_of b 1, cell_of b 2, cell_of b 3, cell_of b 4, cell_of b 5, cell_of b 6⟩)
      have HR : Hid (∀ w', Chg [] w5 w' → ∀ y, xs[k - 1]? = some y → w'.cell? ⟨g3, o3 + (k - 1) * 7, none⟩ = some (.int .i64 y.n) ∧ w'.cell? ⟨g3, o3 + (k - 1) * 7 + 1, none⟩ = some (.int .i64 y.s)) := Lib.hid (fun w' hc y hy => by
        have q := evCells (HA.out.chg (PC.out.trans hc) (by simp)) hy
        exact ⟨q.1, q.2.1⟩)
      have H0 : Hid (∀ w', Chg [] w5 w' → w'.cell? ⟨g3, o3 + 2, none⟩ = some (.string y0.p)) := Lib.hid (fun w' hc => by
        have q := evCells (HA.out.chg (PC.out.trans hc) (by simp)) EY0.out
        rw [Nat.zero_mul, Nat.add_zero] at q
        exact q.2.2.1)
      have CHK : Hid (∀ w', Chg [] w5 w' → Calls Tryz.prog 35 #[.agg #[.int .i64 x.n, .int .i64 x.s, .string x.p, .int .i64 x.k, .int .i64 x.m, .slice x.A x.l x.c, .slice x.B x.bl x.bc]] w' fun r w2 => r = .returned (.int .i64 (chkEv e)) ∧ Chg [] w' w2) := Lib.hid (fun w' hc => evcheck_any w' x e (RX1.out.chg (PC.out.trans hc)) ES1.out)
      rcases chkEv_two e with e1 | e1
      rotate_left
      · have NO : Hid (shE es = 2) := Lib.hid (sh_no_chk EE.out (by omega))
        refine wp_region_held_drew (S := fun w' => Chg [] w5 w') (by kernel_rfl) (Chg.refl [] w5).drew (fun hHeld => ?_)
        refine sy 0 14 rfl rfl ?_ (hy := by (intro w hSw; (try dsimp only at hSw); have hq := HB.out _ hSw; obtain ⟨q0, q1, q2, q3, q4, q5, q6⟩ := hq; go_simp; try with_reducible rfl))
        try simp only [Act.put, sA, s0, s1]
        refine wpAnyH_ready (rs := [1]) (by kernel_rfl) (by simp) ?_
        refine AllReadyH.cons rfl (fun K hK => ?_) AllReadyH.nil
        replace hK := Lib.hid hK
        go_simp
        refine (CHK.out _ hHeld).mono ?_
        rintro r w9 ⟨rfl, hc⟩
        rw [e1]
        have C9 := Lib.hid (hHeld.trans hc)
        clear hc hHeld
        refine hK.out _ _ C9.out (fun hHeld => ?_)
        clear hK K
        try simp only [Act.put, sA, s0, s1]
        refine sy 2 16 rfl rfl ?_
        try simp only [Act.put, sA, s0, s1]
        refine sy 3 17 rfl rfl ?_
        try simp only [Act.put, sA, s0, s1]
        refine sn 4 18 rfl rfl ?_
        try simp only [Act.put, sA, s0, s1]
        refine sn 5 19 rfl rfl ?_
        try simp only [Act.put, sA, s0, s1]
        refine sn 6 20 rfl rfl ?_
        try simp only [Act.put, sA, s0, s1]
        refine sn 7 21 rfl rfl ?_
        try simp only [Act.put, sA, s0, s1]
        refine sn 8 22 rfl rfl ?_
        try simp only [Act.put, sA, s0, s1]
        refine sn 9 23 rfl rfl ?_
        try simp only [Act.put, sA, s0, s1]
        refine sn 10 24 rfl rfl ?_
        try simp only [Act.put, sA, s0, s1]
        refine sn 11 25 rfl rfl ?_
        try simp only [Act.put, sA, s0, s1]
        refine sn 12 26 rfl rfl ?_
        try simp only [Act.put, sA, s0, s1]
        refine sn 13 27 rfl rfl ?_
        try simp only [Act.put, sA, s0, s1]
        refine sn 14 28 rfl rfl ?_
        try simp only [Act.put, sA, s0, s1]
        refine sn 15 29 rfl rfl ?_
        try simp only [Act.put, sA, s0, s1]
        refine sn 16 30 rfl rfl ?_
        try simp only [Act.put, sA, s0, s1]
        refine sn 17 31 rfl rfl ?_
        try simp only [Act.put, sA, s0, s1]
        refine sn 18 32 rfl rfl ?_
        try simp only [Act.put, sA, s0, s1]
        refine sn 19 33 rfl rfl ?_
        try simp only [Act.put, sA, s0, s1]
        refine sn 20 34 rfl rfl ?_
        try simp only [Act.put, sA, s0, s1]
        refine sn 21 35 rfl rfl ?_
        try simp only [Act.put, sA, s0, s1]
        refine sn 22 36 rfl rfl ?_
        try simp only [Act.put, sA, s0, s1]
        refine sn 23 37 rfl rfl ?_
        try simp only [Act.put, sA, s0, s1]
        refine sn 24 38 rfl rfl ?_
        try simp only [Act.put, sA, s0, s1]
        refine sn 25 39 rfl rfl ?_
        try simp only [Act.put, sA, s0, s1]
        refine sn 26 40 rfl rfl ?_
        try simp only [Act.put, sA, s0, s1]
        refine sy 27 41 rfl rfl ?_
        try simp only [Act.put, sA, s0, s1]
        refine wpAnyH_done (by kernel_rfl) ?_ _
        clear hHeld HB HR H0 CHK
        go_wp2
        go_ret
        rw [NO.out]
        exact ⟨rfl, PC.out.trans C9.out⟩
      by_cases k0 : k = 0
      · subst k0
        have OT : Hid (ShTo es (0 + 1)) := Lib.hid (shTo_next ST.out EE.out e1 (fun f hf => by rw [EE.out] at hf; cases hf; rfl) (.inl rfl))
        refine wp_region_held_drew (S := fun w' => Chg [] w5 w') (by kernel_rfl) (Chg.refl [] w5).drew (fun hHeld => ?_)
        refine sy 0 14 rfl rfl ?_ (hy := by (intro w hSw; (try dsimp only at hSw); have hq := HB.out _ hSw; obtain ⟨q0, q1, q2, q3, q4, q5, q6⟩ := hq; go_simp; try with_reducible rfl))
        try simp only [Act.put, sA, s0, s1]
        refine wpAnyH_ready (rs := [1]) (by kernel_rfl) (by simp) ?_
        refine AllReadyH.cons rfl (fun K hK => ?_) AllReadyH.nil
        replace hK := Lib.hid hK
        go_simp
        refine (CHK.out _ hHeld).mono ?_
        rintro r w9 ⟨rfl, hc⟩
        rw [e1]
        have C9 := Lib.hid (hHeld.trans hc)
        clear hc hHeld
        refine hK.out _ _ C9.out (fun hHeld => ?_)
        clear hK K
        try simp only [Act.put, sA, s0, s1]
        refine sy 2 16 rfl rfl ?_
        try simp only [Act.put, sA, s0, s1]
        refine sy 3 17 rfl rfl ?_
        try simp only [Act.put, sA, s0, s1]
        refine sy 4 18 rfl rfl ?_
        try simp only [Act.put, sA, s0, s1]
        refine sy 5 19 rfl rfl ?_
        try simp only [Act.put, sA, s0, s1]
        refine sy 6 20 rfl rfl ?_
        try simp only [Act.put, sA, s0, s1]
        refine sn 7 21 rfl rfl ?_
        try simp only [Act.put, sA, s0, s1]
        refine sn 8 22 rfl rfl ?_
        try simp only [Act.put, sA, s0, s1]
        refine sn 9 23 rfl rfl ?_
        try simp only [Act.put, sA, s0, s1]
        refine sn 10 24 rfl rfl ?_
        try simp only [Act.put, sA, s0, s1]
        refine sn 11 25 rfl rfl ?_
        try simp only [Act.put, sA, s0, s1]
        refine sn 12 26 rfl rfl ?_
        try simp only [Act.put, sA, s0, s1]
        refine sn 13 27 rfl rfl ?_
        try simp only [Act.put, sA, s0, s1]
        refine sn 14 28 rfl rfl ?_
        try simp only [Act.put, sA, s0, s1]
        refine sn 15 29 rfl rfl ?_
        try simp only [Act.put, sA, s0, s1]
        refine sn 16 30 rfl rfl ?_
        try simp only [Act.put, sA, s0, s1]
        refine sn 17 31 rfl rfl ?_
        try simp only [Act.put, sA, s0, s1]
        refine sn 18 32 rfl rfl ?_
        try simp only [Act.put, sA, s0, s1]
        refine sn 19 33 rfl rfl ?_
        try simp only [Act.put, sA, s0, s1]
        refine sn 20 34 rfl rfl ?_
        try simp only [Act.put, sA, s0, s1]
        refine sn 21 35 rfl rfl ?_
        try simp only [Act.put, sA, s0, s1]
        refine sn 22 36 rfl rfl ?_
        try simp only [Act.put, sA, s0, s1]
        refine sn 23 37 rfl rfl ?_
        try simp only [Act.put, sA, s0, s1]
        refine sn 24 38 rfl rfl ?_
        try simp only [Act.put, sA, s0, s1]
        refine sn 25 39 rfl rfl ?_
        try simp only [Act.put, sA, s0, s1]
        refine sy 26 40 rfl rfl ?_
        try simp only [Act.put, sA, s0, s1]
        refine sy 27 41 rfl rfl ?_
        try simp only [Act.put, sA, s0, s1]
        refine wpAnyH_done (by kernel_rfl) ?_ _
        clear hHeld HB HR H0 CHK
        have RC9 := Lib.hid (PC.out.trans C9.out)
        go_wp2
        go_round
        case rel => exact ⟨0 + 1, by omega, by go_num, OT, RC9⟩
        case measure => simp [RowKit.intOf]; omega
      obtain ⟨y, f, ey, ef, ry⟩ := HX.out.at_ (show k - 1 < xs.length by omega)
      have EY := Lib.hid ey
      have EF := Lib.hid ef
      have YD : Hid (y.n = f.n ∧ y.s = f.s ∧ x.n = e.n ∧ x.s = e.s) := Lib.hid ⟨ry.n, ry.s, RX1.out.n, RX1.out.s⟩
      clear ey ef ry
      have l0 : (0 : Int) < (xs.length : Int) := by omega
      have l1 : 0 < xs.length := by omega
      have g1 : (0 : Int) < (k : Int) := by omega
      have g2 : 0 < k := by omega
      have g3' : decide ((0 : Int) < (k : Int)) = true := by simp; omega
      have g4 : decide (0 < k) = true := by simp; omega
      have w1' : IntKind.i64.wrap ((k : Int) - 1) = ((k - 1 : Nat) : Int) := by rw [IntWalk.i64_in _ (by have := HN.out; omega)]; omega
      have g5 : (0 : Int) ≤ ((k - 1 : Nat) : Int) := by omega
      have g6' : ((k - 1 : Nat) : Int) < (xs.length : Int) := by omega
      have g7 : k - 1 < xs.length := by omega
      by_cases hp : e.p = f0.p
      rotate_left
      · have NO : Hid (shE es = 2) := Lib.hid (sh_no_path EE.out EF0.out hp)
        have p1' : ((x.p == y0.p) : Bool) = false := by rw [XP.out.1, XP.out.2]; exact strOf_ne hp
        have p2' : ¬ x.p = y0.p := by rw [XP.out.1, XP.out.2]; exact strOf_ne2 hp
        have p3' : ¬ x.p.toList = y0.p.toList := by rw [XP.out.1, XP.out.2]; exact strOf_ne3s hp
        have p4' : ((x.p.toList == y0.p.toList) : Bool) = false := by simpa using p3' 
        refine wp_region_held_drew (S := fun w' => Chg [] w5 w') (by kernel_rfl) (Chg.refl [] w5).drew (fun hHeld => ?_)
        refine sy 0 14 rfl rfl ?_ (hy := by (intro w hSw; (try dsimp only at hSw); have hq := HB.out _ hSw; obtain ⟨q0, q1, q2, q3, q4, q5, q6⟩ := hq; go_simp; try with_reducible rfl))
        try simp only [Act.put, sA, s0, s1]
        refine wpAnyH_ready (rs := [1]) (by kernel_rfl) (by simp) ?_
        refine AllReadyH.cons rfl (fun K hK => ?_) AllReadyH.nil
        replace hK := Lib.hid hK
        go_simp
        refine (CHK.out _ hHeld).mono ?_
        rintro r w9 ⟨rfl, hc⟩
        rw [e1]
        have C9 := Lib.hid (hHeld.trans hc)
        clear hc hHeld
        refine hK.out _ _ C9.out (fun hHeld => ?_)
        clear hK K
        try simp only [Act.put, sA, s0, s1]
        refine sy 2 16 rfl rfl ?_
        try simp only [Act.put, sA, s0, s1]
        refine sy 3 17 rfl rfl ?_
        try simp only [Act.put, sA, s0, s1]
        refine sy 4 18 rfl rfl ?_
        try simp only [Act.put, sA, s0, s1]
        refine sy 5 19 rfl rfl ?_
        try simp only [Act.put, sA, s0, s1]
        refine sy 6 20 rfl rfl ?_
        try simp only [Act.put, sA, s0, s1]
        refine sy 7 21 rfl rfl ?_
        try simp only [Act.put, sA, s0, s1]
        refine sy 8 22 rfl rfl ?_ (hy := by (intro w hSw; (try dsimp only at hSw); have hq := HB.out _ hSw; obtain ⟨q0, q1, q2, q3, q4, q5, q6⟩ := hq; go_simp; try with_reducible rfl))
        try simp only [Act.put, sA, s0, s1]
        refine sy 9 23 rfl rfl ?_
        try simp only [Act.put, sA, s0, s1]
        refine sy 10 24 rfl rfl ?_
        try simp only [Act.put, sA, s0, s1]
        refine sy 11 25 rfl rfl ?_
        try simp only [Act.put, sA, s0, s1]
        refine sy 12 26 rfl rfl ?_ (hy := by (intro w hSw; (try dsimp only at hSw); have hq := H0.out _ hSw; go_simp; try with_reducible rfl))
        try simp only [Act.put, sA, s0, s1]
        refine sy 13 27 rfl rfl ?_
        try simp only [Act.put, sA, s0, s1]
        refine sy 14 28 rfl rfl ?_
        try simp only [Act.put, sA, s0, s1]
        refine sn 15 29 rfl rfl ?_
        try simp only [Act.put, sA, s0, s1]
        refine sn 16 30 rfl rfl ?_
        try simp only [Act.put, sA, s0, s1]
        refine sn 17 31 rfl rfl ?_
        try simp only [Act.put, sA, s0, s1]
        refine sn 18 32 rfl rfl ?_
        try simp only [Act.put, sA, s0, s1]
        refine sn 19 33 rfl rfl ?_
        try simp only [Act.put, sA, s0, s1]
        refine sn 20 34 rfl rfl ?_
        try simp only [Act.put, sA, s0, s1]
        refine sn 21 35 rfl rfl ?_
        try simp only [Act.put, sA, s0, s1]
        refine sn 22 36 rfl rfl ?_
        try simp only [Act.put, sA, s0, s1]
        refine sn 23 37 rfl rfl ?_
        try simp only [Act.put, sA, s0, s1]
        refine sn 24 38 rfl rfl ?_
        try simp only [Act.put, sA, s0, s1]
        refine sy 25 39 rfl rfl ?_
        try simp only [Act.put, sA, s0, s1]
        refine sy 26 40 rfl rfl ?_
        try simp only [Act.put, sA, s0, s1]
        refine sy 27 41 rfl rfl ?_
        try simp only [Act.put, sA, s0, s1]
        refine wpAnyH_done (by kernel_rfl) ?_ _
        clear hHeld HB HR H0 CHK
        go_wp2
        go_ret
        rw [NO.out]
        exact ⟨rfl, PC.out.trans C9.out⟩
      have HP := Lib.hid hp
      have p1' : ((x.p == y0.p) : Bool) = true := by rw [XP.out.1, XP.out.2, hp]; show ((f0.p.toArray == f0.p.toArray) : Bool) = true; simp
      have p4' : ((x.p.toList == y0.p.toList) : Bool) = true := by rw [XP.out.1, XP.out.2, hp]; simp
      clear hp
      by_cases hl : LtD y.n y.s x.n x.s
      rotate_left
      · have NO : Hid (shE es = 2) := Lib.hid (sh_no_lt EE.out EF.out (by omega) (fun q => hl (by rw [YD.out.1, YD.out.2.1, YD.out.2.2.1, YD.out.2.2.2]; exact q)))
        have dl := decide_eq_false hl
        clear hl
        refine wp_region_held_drew (S := fun w' => Chg [] w5 w') (by kernel_rfl) (Chg.refl [] w5).drew (fun hHeld => ?_)
        refine sy 0 14 rfl rfl ?_ (hy := by (intro w hSw; (try dsimp only at hSw); have hq := HB.out _ hSw; obtain ⟨q0, q1, q2, q3, q4, q5, q6⟩ := hq; go_simp; try with_reducible rfl))
        try simp only [Act.put, sA, s0, s1]
        refine wpAnyH_ready (rs := [1]) (by kernel_rfl) (by simp) ?_
        refine AllReadyH.cons rfl (fun K hK => ?_) AllReadyH.nil
        replace hK := Lib.hid hK
        go_simp
        refine (CHK.out _ hHeld).mono ?_
        rintro r w9 ⟨rfl, hc⟩
        rw [e1]
        have C9 := Lib.hid (hHeld.trans hc)
        clear hc hHeld
        refine hK.out _ _ C9.out (fun hHeld => ?_)
        clear hK K
        try simp only [Act.put, sA, s0, s1]
        refine sy 2 16 rfl rfl ?_
        try simp only [Act.put, sA, s0, s1]
        refine sy 3 17 rfl rfl ?_
        try simp only [Act.put, sA, s0, s1]
        refine sy 4 18 rfl rfl ?_
        try simp only [Act.put, sA, s0, s1]
        refine sy 5 19 rfl rfl ?_
        try simp only [Act.put, sA, s0, s1]
        refine sy 6 20 rfl rfl ?_
        try simp only [Act.put, sA, s0, s1]
        refine sy 7 21 rfl rfl ?_
        try simp only [Act.put, sA, s0, s1]
        refine sy 8 22 rfl rfl ?_ (hy := by (intro w hSw; (try dsimp only at hSw); have hq := HB.out _ hSw; obtain ⟨q0, q1, q2, q3, q4, q5, q6⟩ := hq; go_simp; try with_reducible rfl))
        try simp only [Act.put, sA, s0, s1]
        refine sy 9 23 rfl rfl ?_
        try simp only [Act.put, sA, s0, s1]
        refine sy 10 24 rfl rfl ?_
        try simp only [Act.put, sA, s0, s1]
        refine sy 11 25 rfl rfl ?_
        try simp only [Act.put, sA, s0, s1]
        refine sy 12 26 rfl rfl ?_ (hy := by (intro w hSw; (try dsimp only at hSw); have hq := H0.out _ hSw; go_simp; try with_reducible rfl))
        try simp only [Act.put, sA, s0, s1]
        refine sy 13 27 rfl rfl ?_
        try simp only [Act.put, sA, s0, s1]
        refine sy 14 28 rfl rfl ?_
        try simp only [Act.put, sA, s0, s1]
        refine sy 15 29 rfl rfl ?_
        try simp only [Act.put, sA, s0, s1]
        refine sy 16 30 rfl rfl ?_
        try simp only [Act.put, sA, s0, s1]
        refine sy 17 31 rfl rfl ?_
        try simp only [Act.put, sA, s0, s1]
        refine sy 18 32 rfl rfl ?_
        try simp only [Act.put, sA, s0, s1]
        refine sy 19 33 rfl rfl ?_
        try simp only [Act.put, sA, s0, s1]
        refine sy 20 34 rfl rfl ?_ (hy := by (intro w hSw; (try dsimp only at hSw); have hq := HR.out _ hSw y EY.out; obtain ⟨p0, p1⟩ := hq; go_simp; try with_reducible rfl))
        try simp only [Act.put, sA, s0, s1]
        refine sy 21 35 rfl rfl ?_
        try simp only [Act.put, sA, s0, s1]
        refine sy 22 36 rfl rfl ?_ (hy := by (intro w hSw; (try dsimp only at hSw); have hq := HB.out _ hSw; obtain ⟨q0, q1, q2, q3, q4, q5, q6⟩ := hq; go_simp; try with_reducible rfl))
        try simp only [Act.put, sA, s0, s1]
        refine wpAnyH_ready (rs := [23]) (by kernel_rfl) (by simp) ?_
        refine AllReadyH.cons rfl (fun K hK => ?_) AllReadyH.nil
        replace hK := Lib.hid hK
        go_simp
        refine (dless_any _ _ _ _ _).mono ?_
        rintro r w8 ⟨rfl, hc⟩
        rw [dl]
        have C8 := Lib.hid (hHeld.trans hc)
        clear hc hHeld
        refine hK.out _ _ C8.out (fun hHeld => ?_)
        clear hK K
        try simp only [Act.put, sA, s0, s1]
        refine sy 24 38 rfl rfl ?_
        try simp only [Act.put, sA, s0, s1]
        refine sy 25 39 rfl rfl ?_
        try simp only [Act.put, sA, s0, s1]
        refine sy 26 40 rfl rfl ?_
        try simp only [Act.put, sA, s0, s1]
        refine sy 27 41 rfl rfl ?_
        try simp only [Act.put, sA, s0, s1]
        refine wpAnyH_done (by kernel_rfl) ?_ _
        clear hHeld HB HR H0 CHK
        go_wp2
        go_ret
        rw [NO.out]
        exact ⟨rfl, PC.out.trans C8.out⟩
      have OT : Hid (ShTo es (k + 1)) := Lib.hid (shTo_next ST.out EE.out e1 (fun d hd => by rw [EF0.out] at hd; cases hd; exact HP.out) (.inr (fun d hd => by rw [EF.out] at hd; cases hd; unfold LtEv; rw [← YD.out.1, ← YD.out.2.1, ← YD.out.2.2.1, ← YD.out.2.2.2]; exact hl)))
      have dl := decide_eq_true hl
      clear hl
      refine wp_region_held_drew (S := fun w' => Chg [] w5 w') (by kernel_rfl) (Chg.refl [] w5).drew (fun hHeld => ?_)
      refine sy 0 14 rfl rfl ?_ (hy := by (intro w hSw; (try dsimp only at hSw); have hq := HB.out _ hSw; obtain ⟨q0, q1, q2, q3, q4, q5, q6⟩ := hq; go_simp; try with_reducible rfl))
      try simp only [Act.put, sA, s0, s1]
      refine wpAnyH_ready (rs := [1]) (by kernel_rfl) (by simp) ?_
      refine AllReadyH.cons rfl (fun K hK => ?_) AllReadyH.nil
      replace hK := Lib.hid hK
      go_simp
      refine (CHK.out _ hHeld).mono ?_
      rintro r w9 ⟨rfl, hc⟩
      rw [e1]
      have C9 := Lib.hid (hHeld.trans hc)
      clear hc hHeld
      refine hK.out _ _ C9.out (fun hHeld => ?_)
      clear hK K
      try simp only [Act.put, sA, s0, s1]
      refine sy 2 16 rfl rfl ?_
      try simp only [Act.put, sA, s0, s1]
      refine sy 3 17 rfl rfl ?_
      try simp only [Act.put, sA, s0, s1]
      refine sy 4 18 rfl rfl ?_
      try simp only [Act.put, sA, s0, s1]
      refine sy 5 19 rfl rfl ?_
      try simp only [Act.put, sA, s0, s1]
      refine sy 6 20 rfl rfl ?_
      try simp only [Act.put, sA, s0, s1]
      refine sy 7 21 rfl rfl ?_
      try simp only [Act.put, sA, s0, s1]
      refine sy 8 22 rfl rfl ?_ (hy := by (intro w hSw; (try dsimp only at hSw); have hq := HB.out _ hSw; obtain ⟨q0, q1, q2, q3, q4, q5, q6⟩ := hq; go_simp; try with_reducible rfl))
      try simp only [Act.put, sA, s0, s1]
      refine sy 9 23 rfl rfl ?_
      try simp only [Act.put, sA, s0, s1]
      refine sy 10 24 rfl rfl ?_
      try simp only [Act.put, sA, s0, s1]
      refine sy 11 25 rfl rfl ?_
      try simp only [Act.put, sA, s0, s1]
      refine sy 12 26 rfl rfl ?_ (hy := by (intro w hSw; (try dsimp only at hSw); have hq := H0.out _ hSw; go_simp; try with_reducible rfl))
      try simp only [Act.put, sA, s0, s1]
      refine sy 13 27 rfl rfl ?_
      try simp only [Act.put, sA, s0, s1]
      refine sy 14 28 rfl rfl ?_
      try simp only [Act.put, sA, s0, s1]
      refine sy 15 29 rfl rfl ?_
      try simp only [Act.put, sA, s0, s1]
      refine sy 16 30 rfl rfl ?_
      try simp only [Act.put, sA, s0, s1]
      refine sy 17 31 rfl rfl ?_
      try simp only [Act.put, sA, s0, s1]
      refine sy 18 32 rfl rfl ?_
      try simp only [Act.put, sA, s0, s1]
      refine sy 19 33 rfl rfl ?_
      try simp only [Act.put, sA, s0, s1]
      refine sy 20 34 rfl rfl ?_ (hy := by (intro w hSw; (try dsimp only at hSw); have hq := HR.out _ hSw y EY.out; obtain ⟨p0, p1⟩ := hq; go_simp; try with_reducible rfl))
      try simp only [Act.put, sA, s0, s1]
      refine sy 21 35 rfl rfl ?_
      try simp only [Act.put, sA, s0, s1]
      refine sy 22 36 rfl rfl ?_ (hy := by (intro w hSw; (try dsimp only at hSw); have hq := HB.out _ hSw; obtain ⟨q0, q1, q2, q3, q4, q5, q6⟩ := hq; go_simp; try with_reducible rfl))
      try simp only [Act.put, sA, s0, s1]
      refine wpAnyH_ready (rs := [23]) (by kernel_rfl) (by simp) ?_
      refine AllReadyH.cons rfl (fun K hK => ?_) AllReadyH.nil
      replace hK := Lib.hid hK
      go_simp
      refine (dless_any _ _ _ _ _).mono ?_
      rintro r w8 ⟨rfl, hc⟩
      rw [dl]
      have C8 := Lib.hid (hHeld.trans hc)
      clear hc hHeld
      refine hK.out _ _ C8.out (fun hHeld => ?_)
      clear hK K
      try simp only [Act.put, sA, s0, s1]
      refine sy 24 38 rfl rfl ?_
      try simp only [Act.put, sA, s0, s1]
      refine sy 25 39 rfl rfl ?_
      try simp only [Act.put, sA, s0, s1]
      refine sy 26 40 rfl rfl ?_
      try simp only [Act.put, sA, s0, s1]
      refine sy 27 41 rfl rfl ?_
      try simp only [Act.put, sA, s0, s1]
      refine wpAnyH_done (by kernel_rfl) ?_ _
      clear hHeld HB HR H0 CHK
      have RC9 := Lib.hid (PC.out.trans C8.out)
      go_wp2
      go_round
      case rel => exact ⟨k + 1, by omega, by go_num, OT, RC9⟩
      case measure => simp [RowKit.intOf]; omega
    · obtain rfl : k = xs.length := by omega
      have j1 : ¬ (xs.length : Int) < (xs.length : Int) := by omega
      have SL : Hid (ShTo es es.length) := Lib.hid (by rw [← HX.out.1]; exact ST.out)
      clear ST
      go_wp2
      go_loopw [45] (fun v45 wr => ∃ (k : Nat), k ≤ xs.length ∧ v45 = .int .i64 k ∧ Hid (∀ e ∈ es.take k, es.any (fun x => aheadP e x) = false) ∧ Hid (Chg [] w wr)) (fun v45 _ => xs.length - (RowKit.intOf v45).toNat)
      case atStart => exact ⟨0, Nat.zero_le _, rfl, Lib.hid (by simp), PC⟩
      case round =>
        obtain ⟨k, hk, rfl, NA, PD⟩ := hrel
        have i0 : (0 : Int) ≤ (k : Int) := by omega
        by_cases hlt : k < xs.length
        · have i1 : (k : Int) < (xs.length : Int) := by omega
          have i3 : IntKind.i64.wrap ((k : Int) + 1) = (k : Int) + 1 := IntWalk.i64_in _ (by have := HN.out; omega)
          obtain ⟨g3, o3, eA, _⟩ := HA.out.line (by omega)
          subst eA
          obtain ⟨x, e, ex, ee, rx⟩ := HX.out.at_ hlt
          obtain ⟨z0, z1, z2, z3, z4, z5, z6⟩ := evCells (HA.out.chg PD.out (by simp)) ex
          have EE := Lib.hid ee
          have RX1 := Lib.hid rx
          have ES1 := Lib.hid (HS.out e (List.mem_of_getElem? ee))
          clear ex ee rx
          obtain ⟨w5, hw5, c5, b5⟩ := news1 wr (.cells #[.int .i64 x.n, .int .i64 x.s, .string x.p, .int .i64 x.k, .int .i64 x.m, .slice x.A x.l x.c, .slice x.B x.bl x.bc] 30)
          have W5 := Lib.hid hw5
          replace PD := Lib.hid (PD.out.trans c5)
          have y0 := cell_of b5 0
          have y1 := cell_of b5 1
          have y2 := cell_of b5 2
          have y3 := cell_of b5 3
          have y4 := cell_of b5 4
          have y5 := cell_of b5 5
          have y6 := cell_of b5 6
          simp only [List.getElem?_toArray, List.getElem?_cons_succ, List.getElem?_cons_zero] at y0 y1 y2 y3 y4 y5 y6
          clear hw5 c5 b5
          go_upto_region 10 with fail
          rw [← W5.out]
          generalize wr.heap.size = g6 at *
          clear W5 z0 z1 z2 z3 z4 z5 z6
          have CA := Lib.hid (shahead_any w5 (some ⟨g3, o3, none⟩) c xs es x e (HA.out.chg PD.out (by simp)) (HX.out.chg PD.out) HN.out (RX1.out.chg PD.out) HS.out ES1.out)
          go_wp2_with fail
          clear y0 y1 y2 y3 y4 y5 y6
          refine CA.out.mono ?_
          rintro r w7 ⟨rfl, hc⟩
          replace PD := Lib.hid (PD.out.trans hc)
          clear hc CA
          rcases ha : es.any (fun x => aheadP e x) with _ | _
          · have NA1 : Hid (∀ f ∈ es.take (k + 1), es.any (fun x => aheadP f x) = false) := Lib.hid (fun f hf => by
              rw [List.take_add_one, EE.out] at hf
              rcases List.mem_append.1 hf with q | q
              · exact NA.out f q
              · simp at q; subst q; exact ha)
            clear ha NA
            go_wp2
            go_round
            case rel => exact ⟨k + 1, by omega, by go_num, NA1, PD⟩
            case measure => simp [RowKit.intOf]; omega
          · have NO : Hid (shE es = 2) := Lib.hid (sh_no_ahead EE.out ha)
            clear ha
            go_wp2
            go_ret
            rw [NO.out]
            exact ⟨rfl, PD.out⟩
        · obtain rfl : k = xs.length := by omega
          have i1 : ¬ (xs.length : Int) < (xs.length : Int) := by omega
          have OK : Hid (shE es = 0) := Lib.hid (sh_done SL.out (by
            have := NA.out
            rw [HX.out.1, List.take_length] at this
            exact this))
          clear NA
          go_wp2
          go_ret
          rw [OK.out]
          exact ⟨rfl, PD.out⟩
end
section
open Go.RowKit Go.Lib
set_option linter.unusedSimpArgs false
set_option linter.unusedVariables false


set_option maxRecDepth 100000 in
set_option maxHeartbeats 2000000 in
theorem shfind1_gr (w : World) (x : EvT) (n s : Int) :
    Calls Tryz.prog 70 #[.agg #[.int .i64 x.n, .int .i64 x.s, .string x.p, .int .i64 x.k, .int .i64 x.m, .slice x.A x.l x.c, .slice x.B x.bl x.bc], .agg #[.int .i64 n, .int .i64 s]] w fun e w' => e = .returned (.int .i64 (cmpD x.n x.s n s)) ∧ Gr w w' := by
  obtain ⟨w0, hw0, c0, b0, b1⟩ := gr2 w (.cells #[.int .i64 x.n, .int .i64 x.s, .string x.p, .int .i64 x.k, .int .i64 x.m, .slice x.A x.l x.c, .slice x.B x.bl x.bc] 30) (.cells #[.int .i64 n, .int .i64 s] 24)
  have W0 := Lib.hid hw0
  have G := Lib.hid c0
  have k0 := cell_of b0 0
  have k1 := cell_of b0 1
  have k2 := cell_of b0 2
  have k3 := cell_of b0 3
  have k4 := cell_of b0 4
  have k5 := cell_of b0 5
  have k6 := cell_of b0 6
  simp only [List.getElem?_toArray, List.getElem?_cons_succ, List.getElem?_cons_zero] at k0 k1 k2 k3 k4 k5 k6
  have d0 := cell_of b1 0
  have d1 := cell_of b1 1
  simp only [List.getElem?_toArray, List.getElem?_cons_succ, List.getElem?_cons_zero] at d0 d1
  clear hw0 c0 b0 b1
  go_enter Tryz.func70, Tryz.ntmps70
  go_upto_region 1 with fail
  rw [← W0.out]
  generalize w.heap.size + 1 = s1 at *
  generalize w.heap.size = s0 at *
  go_wp2_with fail
  refine (orderof_gr _ _ _ _ _).mono ?_
  rintro e w1 ⟨rfl, c1⟩
  replace G := Lib.hid (G.out.trans c1)
  clear c1 k0 k1 k2 k3 k4 k5 k6 d0 d1
  go_wp2
  go_ret
  exact ⟨rfl, G.out⟩

theorem shfind1_e (w : World) (x : EvT) (n s : Int) : Calls Tryz.prog 70 #[.agg #[.int .i64 x.n, .int .i64 x.s, .string x.p, .int .i64 x.k, .int .i64 x.m, .slice x.A x.l x.c, .slice x.B x.bl x.bc], .agg #[.int .i64 n, .int .i64 s]] w fun e w' => e = .returned (.int .i64 (cmpEd x n s)) ∧ Chg [] w w' := (shfind1_gr w x n s).mono (fun _ _ h => ⟨h.1, h.2.1⟩)

set_option maxRecDepth 100000 in
set_option maxHeartbeats 8000000 in
theorem shbin_any (w : World) (A : Option Addr) (c : Nat) (xs : List EvT) (n s : Int) (h : RdK evTy w A xs.length xs) (hn : UpE xs) (hl : xs.length ≤ 100000) :
    Calls Tryz.prog 69 #[.slice A xs.length c, .agg #[.int .i64 n, .int .i64 s], .func (.func 70) #[] #[]] w fun e w' => ∃ i : Nat, i ≤ xs.length ∧ LoE xs n s i ∧ HiE xs n s i ∧ e = .returned (.tuple #[.int .i64 (i : Int), .bool (inE xs n s)]) ∧ Chg [] w w' := by
  have HX := Lib.hid h
  have HNM := Lib.hid hn
  have HL := Lib.hid hl
  clear h hn hl
  obtain ⟨w1, hw1, c1, b1⟩ := news1 w (.cells #[.int .i64 n, .int .i64 s] 24)
  have W1 := Lib.hid hw1
  have C1 := Lib.hid c1
  have B1 := Lib.hid b1
  clear hw1 c1 b1
  go_enter Tryz.func69, Tryz.ntmps69
  go_upto_region 2 with fail
  rw [← W1.out]
  generalize w.heap.size = g0 at *
  clear W1
  go_wp2
  go_loopw [9, 10] (fun v9 v10 wr => ∃ (i j : Nat), i ≤ j ∧ j ≤ xs.length ∧ v9 = .int .i64 (i : Int) ∧ v10 = .int .i64 (j : Int) ∧ Hid (LoE xs n s i ∧ HiE xs n s j) ∧ Hid (Chg [] w1 wr)) (fun v9 v10 _ => (RowKit.intOf v10).toNat - (RowKit.intOf v9).toNat)
  case atStart => exact ⟨0, xs.length, Nat.zero_le _, Nat.le_refl _, rfl, rfl, Lib.hid ⟨fun p x _ h => absurd h (by omega), fun p x hx h => absurd ((List.getElem?_eq_some_iff.1 hx).1) (by omega)⟩, Chg.refl _ _⟩
  case round =>
    obtain ⟨i, j, hij, hj, rfl, rfl, HI, HC⟩ := hrel
    have i0 : (0 : Int) ≤ (i : Int) := by omega
    have hl := HL.out
    have i1 : IntKind.i64.wrap ((i : Int) + (j : Int)) = ((i + j : Nat) : Int) := by rw [IntWalk.i64_in _ (by omega)]; omega
    by_cases hlt : i < j
    · have i2 : (i : Int) < (j : Int) := by omega
      go_upto_region 5 with fail
      obtain ⟨k, hk⟩ : ∃ k : Nat, k = (i + j) / 2 := ⟨_, rfl⟩
      have e1 : ((i : Int) + (j : Int)) / 2 = (k : Int) := by omega
      rw [e1]
      have hk1 : i ≤ k ∧ k < j := by omega
      clear hk e1 i1 i2
      obtain ⟨x, hx⟩ : ∃ x, xs[k]? = some x := ⟨_, List.getElem?_eq_getElem (by omega)⟩
      have R4 := (HX.out.chg C1.out (by simp)).chg HC.out (by simp)
      obtain ⟨g, o, eA, _⟩ := R4.line (by omega)
      subst eA
      obtain ⟨q0, q1, q2, q3, q4, q5, q6⟩ := evCells R4 hx
      have b4 := HC.out.at_ B1.out (by simp)
      have d0 := cell_of b4 0
      have d1 := cell_of b4 1
      simp only [List.getElem?_toArray, List.getElem?_cons_succ, List.getElem?_cons_zero] at d0 d1
      have k0 : (0 : Int) ≤ (k : Int) := by omega
      have k1 : (k : Int) < (xs.length : Int) := by omega
      have HX5 := Lib.hid hx
      clear R4 b4 hx
      refine wp_region_held_drew (S := fun w' => w'.cell? ⟨g, o + k * 7, none⟩ = some (.int .i64 x.n) ∧ w'.cell? ⟨g, o + k * 7 + 1, none⟩ = some (.int .i64 x.s) ∧ w'.cell? ⟨g, o + k * 7 + 2, none⟩ = some (.string x.p) ∧ w'.cell? ⟨g, o + k * 7 + 3, none⟩ = some (.int .i64 x.k) ∧ w'.cell? ⟨g, o + k * 7 + 4, none⟩ = some (.int .i64 x.m) ∧ w'.cell? ⟨g, o + k * 7 + 5, none⟩ = some (.slice x.A x.l x.c) ∧ w'.cell? ⟨g, o + k * 7 + 6, none⟩ = some (.slice x.B x.bl x.bc) ∧ w'.cell? ⟨g0, 0, none⟩ = some (.int .i64 n) ∧ w'.cell? ⟨g0, 1, none⟩ = some (.int .i64 s)) (by kernel_rfl) ⟨q0, q1, q2, q3, q4, q5, q6, d0, d1⟩ (fun hHeld => ?_)
      have CD := Lib.hid (Chg.refl [] wr).drew
      have HH := Lib.hid (fun (w' : World) (hc : Chg [] wr.drew w') => (⟨(CD.out.trans hc).cell q0 (by simp), (CD.out.trans hc).cell q1 (by simp), (CD.out.trans hc).cell q2 (by simp), (CD.out.trans hc).cell q3 (by simp), (CD.out.trans hc).cell q4 (by simp), (CD.out.trans hc).cell q5 (by simp), (CD.out.trans hc).cell q6 (by simp), (CD.out.trans hc).cell d0 (by simp), (CD.out.trans hc).cell d1 (by simp)⟩ : w'.cell? ⟨g, o + k * 7, none⟩ = some (.int .i64 x.n) ∧ w'.cell? ⟨g, o + k * 7 + 1, none⟩ = some (.int .i64 x.s) ∧ w'.cell? ⟨g, o + k * 7 + 2, none⟩ = some (.string x.p) ∧ w'.cell? ⟨g, o + k * 7 + 3, none⟩ = some (.int .i64 x.k) ∧ w'.cell? ⟨g, o + k * 7 + 4, none⟩ = some (.int .i64 x.m) ∧ w'.cell? ⟨g, o + k * 7 + 5, none⟩ = some (.slice x.A x.l x.c) ∧ w'.cell? ⟨g, o + k * 7 + 6, none⟩ = some (.slice x.B x.bl x.bc) ∧ w'.cell? ⟨g0, 0, none⟩ = some (.int .i64 n) ∧ w'.cell? ⟨g0, 1, none⟩ = some (.int .i64 s)))
      clear q0 q1 q2 q3 q4 q5 q6 d0 d1
      generalize wr.drew = wd at *
      refine sy 0 24 rfl rfl ?_
      try simp only [Act.put, sA, s0, s1]
      refine sy 1 25 rfl rfl ?_
      try simp only [Act.put, sA, s0, s1]
      refine sy 2 26 rfl rfl ?_
      try simp only [Act.put, sA, s0, s1]
      refine sy 3 27 rfl rfl ?_
      try simp only [Act.put, sA, s0, s1]
      refine sy 4 28 rfl rfl ?_ (hy := by (intro w hSw; (try dsimp only at hSw); obtain ⟨q0, q1, q2, q3, q4, q5, q6, q7, q8⟩ := hSw; go_simp; try with_reducible rfl))
      try simp only [Act.put, sA, s0, s1]
      refine sy 5 29 rfl rfl ?_ (hy := by (intro w hSw; (try dsimp only at hSw); obtain ⟨q0, q1, q2, q3, q4, q5, q6, q7, q8⟩ := hSw; go_simp; try with_reducible rfl))
      try simp only [Act.put, sA, s0, s1]
      refine wpAnyH_ready (rs := [6]) (by kernel_rfl) (by simp) ?_
      refine AllReadyH.cons rfl (fun K hK => ?_) AllReadyH.nil
      replace hK := Lib.hid hK
      go_simp
      refine (shfind1_e wd x n s).mono ?_
      rintro r w6 ⟨rfl, h6⟩
      have C6 := Lib.hid h6
      clear h6 hHeld
      refine hK.out _ _ (HH.out w6 C6.out) (fun hHeld => ?_)
      clear hK K
      try simp only [Act.put, sA, s0, s1]
      refine sy 7 31 rfl rfl ?_
      try simp only [Act.put, sA, s0, s1]
      refine wpAnyH_done (by kernel_rfl) ?_ _
      clear hHeld HH
      have CE := Lib.hid (HC.out.trans (CD.out.trans C6.out))
      by_cases hneg : cmpEd x n s < 0
      · have LO := Lib.hid (loE_next HNM.out HX5.out hneg)
        have dn1 : decide (cmpEd x n s < 0) = true := decide_eq_true hneg
        have w1' : IntKind.i64.wrap ((k : Int) + 1) = (k : Int) + 1 := IntWalk.i64_in _ (by omega)
        go_wp2
        go_round
        case rel => exact ⟨k + 1, j, by omega, hj, by go_num, rfl, Lib.hid ⟨LO.out, HI.out.2⟩, CE.out⟩
        case measure => simp [RowKit.intOf]; omega
      · have HIN := Lib.hid (hiE_next HNM.out HX5.out hneg)
        have dn1 : decide (cmpEd x n s < 0) = false := decide_eq_false hneg
        go_wp2
        go_round
        case rel => exact ⟨i, k, by omega, by omega, rfl, rfl, Lib.hid ⟨HI.out.1, HIN.out⟩, CE.out⟩
        case measure => simp [RowKit.intOf]; omega
    · obtain rfl : i = j := by omega
      have i2 : ¬ (i : Int) < (i : Int) := by omega
      by_cases hin : i < xs.length
      · have k1 : (i : Int) < (xs.length : Int) := by omega
        have k2 : decide ((i : Int) < (xs.length : Int)) = true := by simp; omega
        have k3 : decide (i < xs.length) = true := by simp; omega
        obtain ⟨x, hx⟩ : ∃ x, xs[i]? = some x := ⟨_, List.getElem?_eq_getElem hin⟩
        have R4 := (HX.out.chg C1.out (by simp)).chg HC.out (by simp)
        obtain ⟨g, o, eA, _⟩ := R4.line (by omega)
        subst eA
        obtain ⟨q0, q1, q2, q3, q4, q5, q6⟩ := evCells R4 hx
        have b4 := HC.out.at_ B1.out (by simp)
        have d0 := cell_of b4 0
        have d1 := cell_of b4 1
        simp only [List.getElem?_toArray, List.getElem?_cons_succ, List.getElem?_cons_zero] at d0 d1
        have ANS : Hid (inE xs n s = decide (cmpEd x n s = 0)) := Lib.hid (by
          by_cases hz : cmpEd x n s = 0
          · rw [inE_yes hx hz, decide_eq_true hz]
          · rw [inE_no HNM.out HI.out.1 HI.out.2 (fun y hy => by rw [hx] at hy; cases hy; exact hz), decide_eq_false hz])
        clear R4 b4 hx
        go_upto_region 8 with fail
        refine wp_region_held_drew (S := fun w' => w'.cell? ⟨g, o + i * 7, none⟩ = some (.int .i64 x.n) ∧ w'.cell? ⟨g, o + i * 7 + 1, none⟩ = some (.int .i64 x.s) ∧ w'.cell? ⟨g, o + i * 7 + 2, none⟩ = some (.string x.p) ∧ w'.cell? ⟨g, o + i * 7 + 3, none⟩ = some (.int .i64 x.k) ∧ w'.cell? ⟨g, o + i * 7 + 4, none⟩ = some (.int .i64 x.m) ∧ w'.cell? ⟨g, o + i * 7 + 5, none⟩ = some (.slice x.A x.l x.c) ∧ w'.cell? ⟨g, o + i * 7 + 6, none⟩ = some (.slice x.B x.bl x.bc) ∧ w'.cell? ⟨g0, 0, none⟩ = some (.int .i64 n) ∧ w'.cell? ⟨g0, 1, none⟩ = some (.int .i64 s)) (by kernel_rfl) ⟨q0, q1, q2, q3, q4, q5, q6, d0, d1⟩ (fun hHeld => ?_)
        have CD := Lib.hid (Chg.refl [] wr).drew
        have HH := Lib.hid (fun (w' : World) (hc : Chg [] wr.drew w') => (⟨(CD.out.trans hc).cell q0 (by simp), (CD.out.trans hc).cell q1 (by simp), (CD.out.trans hc).cell q2 (by simp), (CD.out.trans hc).cell q3 (by simp), (CD.out.trans hc).cell q4 (by simp), (CD.out.trans hc).cell q5 (by simp), (CD.out.trans hc).cell q6 (by simp), (CD.out.trans hc).cell d0 (by simp), (CD.out.trans hc).cell d1 (by simp)⟩ : w'.cell? ⟨g, o + i * 7, none⟩ = some (.int .i64 x.n) ∧ w'.cell? ⟨g, o + i * 7 + 1, none⟩ = some (.int .i64 x.s) ∧ w'.cell? ⟨g, o + i * 7 + 2, none⟩ = some (.string x.p) ∧ w'.cell? ⟨g, o + i * 7 + 3, none⟩ = some (.int .i64 x.k) ∧ w'.cell? ⟨g, o + i * 7 + 4, none⟩ = some (.int .i64 x.m) ∧ w'.cell? ⟨g, o + i * 7 + 5, none⟩ = some (.slice x.A x.l x.c) ∧ w'.cell? ⟨g, o + i * 7 + 6, none⟩ = some (.slice x.B x.bl x.bc) ∧ w'.cell? ⟨g0, 0, none⟩ = some (.int .i64 n) ∧ w'.cell? ⟨g0, 1, none⟩ = some (.int .i64 s)))
        clear q0 q1 q2 q3 q4 q5 q6 d0 d1 i2
        generalize wr.drew = wd at *
        refine sy 0 35 rfl rfl ?_
        try simp only [Act.put, sA, s0, s1]
        refine sy 1 36 rfl rfl ?_
        try simp only [Act.put, sA, s0, s1]
        refine sy 2 37 rfl rfl ?_
        try simp only [Act.put, sA, s0, s1]
        refine sy 3 38 rfl rfl ?_
        try simp only [Act.put, sA, s0, s1]
        refine sy 4 39 rfl rfl ?_
        try simp only [Act.put, sA, s0, s1]
        refine sy 5 40 rfl rfl ?_
        try simp only [Act.put, sA, s0, s1]
        refine sy 6 41 rfl rfl ?_
        try simp only [Act.put, sA, s0, s1]
        refine sy 7 42 rfl rfl ?_
        try simp only [Act.put, sA, s0, s1]
        refine sy 8 43 rfl rfl ?_
        try simp only [Act.put, sA, s0, s1]
        refine sy 9 44 rfl rfl ?_ (hy := by (intro w hSw; (try dsimp only at hSw); obtain ⟨q0, q1, q2, q3, q4, q5, q6, q7, q8⟩ := hSw; go_simp; try with_reducible rfl))
        try simp only [Act.put, sA, s0, s1]
        refine sy 10 45 rfl rfl ?_ (hy := by (intro w hSw; (try dsimp only at hSw); obtain ⟨q0, q1, q2, q3, q4, q5, q6, q7, q8⟩ := hSw; go_simp; try with_reducible rfl))
        try simp only [Act.put, sA, s0, s1]
        refine wpAnyH_ready (rs := [11]) (by kernel_rfl) (by simp) ?_
        refine AllReadyH.cons rfl (fun K hK => ?_) AllReadyH.nil
        replace hK := Lib.hid hK
        go_simp
        refine (shfind1_e wd x n s).mono ?_
        rintro r w6 ⟨rfl, h6⟩
        have C6 := Lib.hid h6
        clear h6 hHeld
        refine hK.out _ _ (HH.out w6 C6.out) (fun hHeld => ?_)
        clear hK K
        try simp only [Act.put, sA, s0, s1]
        refine sy 12 47 rfl rfl ?_
        try simp only [Act.put, sA, s0, s1]
        refine sy 13 48 rfl rfl ?_
        try simp only [Act.put, sA, s0, s1]
        refine sy 14 6 rfl rfl ?_
        try simp only [Act.put, sA, s0, s1]
        refine sy 15 7 rfl rfl ?_
        try simp only [Act.put, sA, s0, s1]
        refine wpAnyH_done (by kernel_rfl) ?_ _
        clear hHeld HH
        have CE := Lib.hid (C1.out.trans (HC.out.trans (CD.out.trans C6.out)))
        have LH := HI
        by_cases hz : cmpEd x n s = 0
        · have AN : inE xs n s = true := by rw [ANS.out, decide_eq_true hz]
          have dz : ((cmpEd x n s == 0) : Bool) = true := by simpa using hz
          clear ANS hz
          go_wp2
          go_ret2
          (first | exact ⟨i, by omega, LH.out.1, LH.out.2, by rw [AN]; first | rfl | (show Ending.returned (.tuple #[.int .i64 (i : Int), .bool (cmpEd x n s == 0)]) = _; rw [dz]), CE.out⟩ | exact ⟨i, by omega, LH.out.1, LH.out.2, by first | rfl | (rw [AN]; rfl), CE.out⟩ | exact ⟨i, by omega, LH.out.1, LH.out.2, by show Ending.returned (.tuple #[.int .i64 (i : Int), .bool (cmpEd x n s == 0)]) = _; rw [dz], CE.out⟩)
        · have AN : inE xs n s = false := by rw [ANS.out, decide_eq_false hz]
          have dz : ((cmpEd x n s == 0) : Bool) = false := by simpa using hz
          clear ANS hz
          go_wp2
          go_ret2
          (first | exact ⟨i, by omega, LH.out.1, LH.out.2, by rw [AN]; first | rfl | (show Ending.returned (.tuple #[.int .i64 (i : Int), .bool (cmpEd x n s == 0)]) = _; rw [dz]), CE.out⟩ | exact ⟨i, by omega, LH.out.1, LH.out.2, by first | rfl | (rw [AN]; rfl), CE.out⟩ | exact ⟨i, by omega, LH.out.1, LH.out.2, by show Ending.returned (.tuple #[.int .i64 (i : Int), .bool (cmpEd x n s == 0)]) = _; rw [dz], CE.out⟩)
      · have k1 : ¬ (i : Int) < (xs.length : Int) := by omega
        have k2 : decide ((i : Int) < (xs.length : Int)) = false := by simp; omega
        have k3 : decide (i < xs.length) = false := by simp; omega
        have ANS : Hid (inE xs n s = false) := Lib.hid (inE_no HNM.out HI.out.1 HI.out.2 (fun y hy => absurd ((List.getElem?_eq_some_iff.1 hy).1) hin))
        go_upto_region 8 with fail
        refine wp_region_held_drew (S := fun _ => True) (by kernel_rfl) trivial (fun hHeld => ?_)
        have CD := Lib.hid (Chg.refl [] wr).drew
        generalize wr.drew = wd at *
        clear i2
        refine sy 0 35 rfl rfl ?_ (hS := trivial)
        try simp only [Act.put, sA, s0, s1]
        refine sy 1 36 rfl rfl ?_ (hS := trivial)
        try simp only [Act.put, sA, s0, s1]
        refine sy 2 37 rfl rfl ?_ (hS := trivial)
        try simp only [Act.put, sA, s0, s1]
        refine sy 3 38 rfl rfl ?_ (hS := trivial)
        try simp only [Act.put, sA, s0, s1]
        refine sy 4 39 rfl rfl ?_ (hS := trivial)
        try simp only [Act.put, sA, s0, s1]
        refine sn 5 40 rfl rfl ?_ (hS := trivial)
        try simp only [Act.put, sA, s0, s1]
        refine sn 6 41 rfl rfl ?_ (hS := trivial)
        try simp only [Act.put, sA, s0, s1]
        refine sn 7 42 rfl rfl ?_ (hS := trivial)
        try simp only [Act.put, sA, s0, s1]
        refine sn 8 43 rfl rfl ?_ (hS := trivial)
        try simp only [Act.put, sA, s0, s1]
        refine sn 9 44 rfl rfl ?_ (hS := trivial)
        try simp only [Act.put, sA, s0, s1]
        refine sn 10 45 rfl rfl ?_ (hS := trivial)
        try simp only [Act.put, sA, s0, s1]
        refine sn 11 46 rfl rfl ?_ (hS := trivial)
        try simp only [Act.put, sA, s0, s1]
        refine sn 12 47 rfl rfl ?_ (hS := trivial)
        try simp only [Act.put, sA, s0, s1]
        refine sy 13 48 rfl rfl ?_ (hS := trivial)
        try simp only [Act.put, sA, s0, s1]
        refine sy 14 6 rfl rfl ?_ (hS := trivial)
        try simp only [Act.put, sA, s0, s1]
        refine sy 15 7 rfl rfl ?_ (hS := trivial)
        try simp only [Act.put, sA, s0, s1]
        refine wpAnyH_done (by kernel_rfl) ?_ _
        clear hHeld
        have CE := Lib.hid (C1.out.trans (HC.out.trans CD.out))
        have AN := ANS.out
        have LH := HI
        go_wp2
        go_ret2
        (first | exact ⟨i, by omega, LH.out.1, LH.out.2, by rw [AN]; first | rfl | (show Ending.returned (.tuple #[.int .i64 (i : Int), .bool (cmpEd x n s == 0)]) = _; rw [dz]), CE.out⟩ | exact ⟨i, by omega, LH.out.1, LH.out.2, by first | rfl | (rw [AN]; rfl), CE.out⟩ | exact ⟨i, by omega, LH.out.1, LH.out.2, by show Ending.returned (.tuple #[.int .i64 (i : Int), .bool (cmpEd x n s == 0)]) = _; rw [dz], CE.out⟩)

set_option maxRecDepth 100000 in
set_option maxHeartbeats 4000000 in
theorem shfind_any (w : World) (A : Option Addr) (c : Nat) (xs : List EvT) (n s : Int) (h : RdK evTy w A xs.length xs) (hn : UpE xs) (hl : xs.length ≤ 100000) :
    Calls Tryz.prog 36 #[.slice A xs.length c, .agg #[.int .i64 n, .int .i64 s]] w fun e w' => ∃ i : Nat, i ≤ xs.length ∧ LoE xs n s i ∧ HiE xs n s i ∧ e = .returned (.tuple #[.int .i64 (i : Int), .bool (inE xs n s)]) ∧ Chg [] w w' := by
  obtain ⟨w1, hw1, c1, b1⟩ := news1 w (.cells #[.int .i64 n, .int .i64 s] 24)
  have W1 := Lib.hid hw1
  have C1 := Lib.hid c1
  have CC := Lib.hid (shbin_any w1 A c xs n s (h.chg c1 (by simp)) hn hl)
  have d0 := cell_of b1 0
  have d1 := cell_of b1 1
  simp only [List.getElem?_toArray, List.getElem?_cons_succ, List.getElem?_cons_zero] at d0 d1
  clear hw1 c1 b1 h hn hl
  go_enter Tryz.func36, Tryz.ntmps36
  go_upto_region 1 with fail
  rw [← W1.out]
  generalize w.heap.size = g1 at *
  clear W1
  go_wp2_with fail
  clear d0 d1
  refine CC.out.mono ?_
  rintro r w2 ⟨i, hi, lo, hh, rfl, hc⟩
  have P := Lib.hid (And.intro hi (And.intro lo hh))
  replace C1 := Lib.hid (C1.out.trans hc)
  clear hc CC hi lo hh
  go_wp2
  first | go_ret2 | go_ret
  exact ⟨i, P.out.1, P.out.2.1, P.out.2.2, rfl, C1.out⟩
end
section
open Go.RowKit Go.Lib
set_option linter.unusedSimpArgs false
set_option linter.unusedVariables false


set_option maxRecDepth 100000 in
set_option maxHeartbeats 4000000 in
theorem shwithout1_any (w : World) (gq : Nat) (T : TypeId) (gp : Nat) (x y : EvT) (e f : EvP) (hq : w.heap[gq]? = some (.cells #[.func (.func 24) #[] #[]] T (0, 0))) (hp : w.heap[gp]? = some (.cells #[.int .i64 y.n, .int .i64 y.s, .string y.p, .int .i64 y.k, .int .i64 y.m, .slice y.A y.l y.c, .slice y.B y.bl y.bc] 30 (0, 0))) (hx : EvR w x e) (hy : EvR w y f) (hs : EvSm e) (ht : EvSm f) :
    Calls Tryz.prog 76 #[.agg #[.int .i64 x.n, .int .i64 x.s, .string x.p, .int .i64 x.k, .int .i64 x.m, .slice x.A x.l x.c, .slice x.B x.bl x.bc], .pointer (some ⟨gq, 0, none⟩), .pointer (some ⟨gp, 0, none⟩)] w fun r w' => r = .returned (.bool (aheadP e f)) ∧ Chg [] w w' := by
  obtain ⟨w1, hw1, c1, b1⟩ := news1 w (.cells #[.int .i64 x.n, .int .i64 x.s, .string x.p, .int .i64 x.k, .int .i64 x.m, .slice x.A x.l x.c, .slice x.B x.bl x.bc] 30)
  have W1 := Lib.hid hw1
  have C1 := Lib.hid c1
  have CC := Lib.hid (evahead_any w1 x y e f (hx.chg c1) (hy.chg c1) hs ht)
  have p0 := c1.at_ hp (by simp)
  have p1 := c1.at_ hq (by simp)
  have y0 := cell_of p0 0
  have y1 := cell_of p0 1
  have y2 := cell_of p0 2
  have y3 := cell_of p0 3
  have y4 := cell_of p0 4
  have y5 := cell_of p0 5
  have y6 := cell_of p0 6
  have z0 := cell_of b1 0
  have z1 := cell_of b1 1
  have z2 := cell_of b1 2
  have z3 := cell_of b1 3
  have z4 := cell_of b1 4
  have z5 := cell_of b1 5
  have z6 := cell_of b1 6
  have u0 := cell_of p1 0
  simp only [List.getElem?_toArray, List.getElem?_cons_succ, List.getElem?_cons_zero] at y0 y1 y2 y3 y4 y5 y6 z0 z1 z2 z3 z4 z5 z6 u0
  clear hw1 c1 b1 hp hq hx hy hs ht p0 p1
  generalize aheadP e f = v at *
  go_enter Tryz.func76, Tryz.ntmps76
  go_upto_region 1 with fail
  rw [← W1.out]
  generalize w.heap.size = g1 at *
  clear W1
  go_wp2_with fail
  clear y0 y1 y2 y3 y4 y5 y6 z0 z1 z2 z3 z4 z5 z6 u0
  refine CC.out.mono ?_
  rintro r w2 ⟨rfl, hc⟩
  replace C1 := Lib.hid (C1.out.trans hc)
  clear hc CC
  go_wp2
  go_ret
  exact ⟨rfl, C1.out⟩

set_option maxRecDepth 100000 in
set_option maxHeartbeats 4000000 in
theorem shindexw_any (w : World) (A : Option Addr) (c : Nat) (xs : List EvT) (es : List EvP) (gq : Nat) (T : TypeId) (gp : Nat) (y : EvT) (f : EvP) (h : RdK evTy w A xs.length xs) (hx : EvsR w xs es) (hn : xs.length ≤ 100000) (hq : w.heap[gq]? = some (.cells #[.func (.func 24) #[] #[]] T (0, 0))) (hp : w.heap[gp]? = some (.cells #[.int .i64 y.n, .int .i64 y.s, .string y.p, .int .i64 y.k, .int .i64 y.m, .slice y.A y.l y.c, .slice y.B y.bl y.bc] 30 (0, 0))) (hy : EvR w y f) (hs : ∀ e ∈ es, EvSm e) (ht : EvSm f) :
    Calls Tryz.prog 97 #[.slice A xs.length c, .func (.func 76) #[] #[.pointer (some ⟨gq, 0, none⟩), .pointer (some ⟨gp, 0, none⟩)]] w fun r w' => (∃ v : Int, r = .returned (.int .i64 v) ∧ IdxP es (fun e => aheadP e f) v) ∧ Chg [] w w' := by
  have HA := Lib.hid h
  have HX := Lib.hid hx
  have HN := Lib.hid hn
  have HCALL := Lib.hid (fun (wr : World) (RC : Chg [] w wr) (x : EvT) (e : EvP) (rx : EvR w x e) (he : e ∈ es) => shwithout1_any wr gq T gp x y e f (RC.at_ hq (by simp)) (RC.at_ hp (by simp)) (rx.chg RC) (hy.chg RC) (hs e he) ht)
  have CLEARS : True := trivial
  clear CLEARS h hx hn
  go_enter Tryz.func97, Tryz.ntmps97
  go_wp2
  go_loopw [5, 8] (fun v5 v8 wr => ∃ (k : Nat), k ≤ xs.length ∧ v8 = .int .i64 k ∧ Hid (∀ e ∈ es.take k, (fun e => aheadP e f) e = false) ∧ Hid (Chg [] w wr)) (fun _ v8 _ => xs.length - (RowKit.intOf v8).toNat)
  case atStart => exact ⟨0, Nat.zero_le _, rfl, Lib.hid (by simp), Chg.refl _ _⟩
  case round =>
    obtain ⟨k, hk, rfl, FN_, RC⟩ := hrel
    have i0 : (0 : Int) ≤ (k : Int) := by omega
    by_cases hlt : k < xs.length
    · have i1 : (k : Int) < (xs.length : Int) := by omega
      have i3 : IntKind.i64.wrap ((k : Int) + 1) = (k : Int) + 1 := IntWalk.i64_in _ (by have := HN.out; omega)
      obtain ⟨x, e, ex, ee, rx⟩ := HX.out.at_ hlt
      obtain ⟨g, o, eA, _⟩ := HA.out.line (by omega)
      subst eA
      obtain ⟨z0, z1, z2, z3, z4, z5, z6⟩ := evCells (HA.out.chg RC.out (by simp)) ex
      have EE := Lib.hid ee
      have CL := Lib.hid (HCALL.out wr RC.out x e rx (List.mem_of_getElem? ee))
      clear ex ee rx
      go_wp2_with fail
      refine CL.out.mono ?_
      rintro r w2 ⟨rfl, hc⟩
      have C2 := Lib.hid (RC.out.trans hc)
      clear hc CL z0 z1 z2 z3 z4 z5 z6
      rcases hb : (fun e => aheadP e f) e with _ | _
      · have FN1 := Lib.hid (all_take_no FN_.out EE.out hb)
        dsimp only at hb
        rw [hb]
        clear hb FN_
        go_wp2
        go_round
        case rel => exact ⟨k + 1, by omega, by go_num, FN1, C2⟩
        case measure => simp [RowKit.intOf]; omega
      · have AN : Hid (IdxP es (fun e => aheadP e f) (k : Int)) := Lib.hid (.inr ⟨k, e, rfl, EE.out, hb, FN_.out⟩)
        dsimp only at hb
        rw [hb]
        clear hb FN_
        go_wp2
        go_ret
        exact ⟨⟨k, rfl, AN.out⟩, C2.out⟩
    · obtain rfl : k = xs.length := by omega
      have ET : es.take xs.length = es := by rw [HX.out.1]; exact List.take_length
      rw [ET] at FN_
      clear ET
      have i1 : ¬ (xs.length : Int) < (xs.length : Int) := by omega
      go_wp2
      go_ret
      exact ⟨⟨-1, rfl, .inl ⟨rfl, FN_.out⟩⟩, RC.out⟩
end
end Go.Proofs.YtdfapiffalmjcaaGreatDoor
