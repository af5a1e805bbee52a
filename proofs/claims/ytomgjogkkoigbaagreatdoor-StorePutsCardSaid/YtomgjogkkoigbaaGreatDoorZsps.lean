/- What a store is, and is with one event more: purely. The runs of a store: purely. Where the shelf of a path stands in a store, and all paths of it: purely. The document's Paths (store). shelf.isAheadOfOne. shelf.without's func; IndexFunc at it. Package past: Bytes; the document's. The document's Bytes of a past. The program's Bytes of a past. The numbers of bytes: the program's, the document's. The document's four. The program's Read of a past. The walk of past.Read. -/
import Derived.Test.YtomgjogkkoigbaaGreatDoorZspr
import Derived.Maps.OwnSet
import Derived.Test.YtomgjogkkoigbaaGreatDoorZspj
import Derived.Test.YtomgjogkkoigbaaGreatDoorZspb
import Derived.Test.YtomgjogkkoigbaaGreatDoorZspd
import Derived.Deep.Cut
import Derived.Deep.RegionHeld3
import Derived.Test.YtomgjogkkoigbaaGreatDoorZspm
import Derived.Test.YtomgjogkkoigbaaGreatDoorZspc
import Derived.Test.YtomgjogkkoigbaaGreatDoorZspk
import Derived.Test.YtomgjogkkoigbaaGreatDoorZspa
import Derived.Laws.MakeOwn
import Derived.Deep.QuietTactic
import Derived.BigQuiet
set_option linter.unusedSimpArgs false
set_option linter.unusedVariables false
namespace Go.Proofs.YtomgjogkkoigbaaGreatDoor
section
open Go.RowKit Go.Lib

def leP (a b : EvP) : Prop := a.p = b.p ∨ lessL a.p b.p = true
instance (a b : EvP) : Decidable (leP a b) := by unfold leP; exact inferInstance
def dotNe (a b : EvP) : Prop := ¬ (a.n = b.n ∧ a.s = b.s)
instance (a b : EvP) : Decidable (dotNe a b) := by unfold dotNe; exact inferInstance
def StOk (s : List EvP) : Prop := s.Pairwise leP ∧ s.Pairwise dotNe ∧ ∀ e ∈ s, ShOk (atS s e.p)
instance (s : List EvP) : Decidable (StOk s) := by unfold StOk; exact inferInstance
def stE (s : List EvP) : Int := if StOk s then 0 else 2
def elseE (s : List EvP) (e : EvP) : Bool := s.any (fun x => decide (x.n = e.n ∧ x.s = e.s) && !decide (x.p = e.p))
def stPut (s : List EvP) (e : EvP) : Int × List EvP := if ¬ (StOk s ∧ chkEv e = 0) then (2, []) else if elseE s e = true then (7, []) else (0, putS s e)
def stFold (s : List EvP) : List EvP → Int × List EvP
 | [] => (0, s)
 | e :: l => if elseE s e = true then (7, []) else stFold (putS s e) l
def stJoin (a b : List EvP) : Int × List EvP := if StOk a ∧ StOk b then stFold a b else (2, [])
theorem stE_zero {s : List EvP} : stE s = 0 ↔ StOk s := by unfold stE; split <;> simp_all
theorem stE_two (s : List EvP) : stE s = 0 ∨ stE s = 2 := by unfold stE; split <;> simp
theorem leP_tr {a b c : EvP} (h : leP a b) (k : leP b c) : leP a c := by
 rcases h with h | h <;> rcases k with k | k
 ·
  exact .inl (h.trans k)
 ·
  exact .inr (h ▸ k)
 ·
  exact .inr (k ▸ h)
 ·
  exact .inr (less_trans _ _ _ h k)
theorem stOk_at {s : List EvP} (h : StOk s) (p : List UInt8) : ShOk (atS s p) := by
 by_cases q : ∃ e ∈ s, e.p = p
 ·
  obtain ⟨e, he, rfl⟩ := q
  exact h.2.2 e he
 ·
  have e : atS s p = [] := atS_none (fun x hx ex => q ⟨x, hx, ex⟩)
  rw [e]
  simp [ShOk]
theorem stOk_chk {s : List EvP} (h : StOk s) : ∀ e ∈ s, chkEv e = 0 := fun e he => (h.2.2 e he).1 e (mem_atS.2 ⟨he, rfl⟩)
theorem else_no {s : List EvP} {e : EvP} (h : elseE s e = false) : ∀ x ∈ s, x.n = e.n ∧ x.s = e.s → x.p = e.p := fun x hx hd => by
 by_cases q : x.p = e.p
 ·
  exact q
 ·
  have : elseE s e = true := List.any_eq_true.2 ⟨x, hx, by simp [hd, q]⟩
  rw [h] at this
  cases this
theorem putE_in {l : List EvP} {e x : EvP} (h : x ∈ putE l e) : x ∈ l ∨ (x = e ∧ ∀ y ∈ l, dotNe y e) := by
 unfold putE at h
 by_cases q : stayE l e = true
 ·
  rw [if_pos q] at h
  exact .inl h
 ·
  rw [if_neg q] at h
  have q : stayE l e = false := by simpa using q
  rcases (insE_mem e x _).1 h with r | r
  ·
   exact .inr ⟨r, fun y hy => (stay_no q y hy).1⟩
  ·
   exact .inl (List.mem_filter.1 r).1
theorem dotNe_comm {a b : EvP} (h : dotNe a b) : dotNe b a := fun q => h ⟨q.1.symm, q.2.symm⟩
theorem dots_up {l : List EvP} (h : l.Pairwise LtEv) : l.Pairwise dotNe := h.imp (fun {a b} hab q => by unfold LtEv LtD at hab; omega)
theorem stOk_put {s : List EvP} {e : EvP} (h : StOk s) (he : chkEv e = 0) (hn : elseE s e = false) : StOk (putS s e) := by
 have sh := stOk_at h e.p
 have ok : ShOk (putE (atS s e.p) e) := put_ok sh he (fun x hx => (mem_atS.1 hx).2)
 have sep : ∀ x ∈ putE (atS s e.p) e, ∀ y ∈ s, y.p ≠ e.p → dotNe x y := fun x hx y hy hp => by
  rcases putE_in hx with a | a
  ·
   have hx := mem_atS.1 a
   intro q
   have : x = y ∨ dotNe x y := by
    by_cases e1 : x = y
    ·
     exact .inl e1
    ·
     right
     have hd := h.2.1
     obtain ⟨i, hi⟩ := List.getElem?_of_mem hx.1
     obtain ⟨k, hk⟩ := List.getElem?_of_mem hy
     obtain ⟨li, ei⟩ := List.getElem?_eq_some_iff.1 hi
     obtain ⟨lk, ek⟩ := List.getElem?_eq_some_iff.1 hk
     rcases Nat.lt_trichotomy i k with c | c | c
     ·
      have := List.pairwise_iff_getElem.1 hd i k li lk c
      rwa [ei, ek] at this
     ·
      subst c
      rw [hi] at hk
      cases hk
      exact absurd rfl e1
     ·
      have := List.pairwise_iff_getElem.1 hd k i lk li c
      rw [ei, ek] at this
      exact dotNe_comm this
   rcases this with e1 | e1
   ·
    rw [e1] at hx
    exact hp hx.2
   ·
    exact e1 q
  ·
   intro q
   rw [a.1] at q
   exact hp (else_no hn y hy ⟨q.1.symm, q.2.symm⟩)
 refine ⟨?_, ?_, fun x hx => ?_⟩
 ·
  unfold putS
  rw [List.pairwise_append, List.pairwise_append]
  refine ⟨h.1.sublist List.filter_sublist, ⟨?_, h.1.sublist List.filter_sublist, fun a ha b hb => ?_⟩, fun a ha b hb => ?_⟩
  ·
   rw [List.pairwise_iff_forall_sublist]
   intro a b hab
   have ha := hab.subset (show a ∈ [a, b] by simp)
   have hb := hab.subset (show b ∈ [a, b] by simp)
   exact .inl ((putE_path a ha).trans (putE_path b hb).symm)
  ·
   have h2 := (List.mem_filter.1 hb).2
   exact .inr (by rw [putE_path a ha]; exact h2)
  ·
   have h1 := (List.mem_filter.1 ha).2
   rcases List.mem_append.1 hb with q | q
   ·
    exact .inr (by rw [putE_path b q]; exact h1)
   ·
    exact .inr (less_trans _ _ _ h1 (List.mem_filter.1 q).2)
 ·
  unfold putS
  rw [List.pairwise_append, List.pairwise_append]
  have sub : ∀ a ∈ s.filter (fun x => lessL x.p e.p), ∀ b ∈ s.filter (fun x => lessL e.p x.p), dotNe a b := fun a ha b hb q => by
   have ha := List.mem_filter.1 ha
   have hb := List.mem_filter.1 hb
   have ne : a ≠ b := fun e1 => by
    have t1 : lessL a.p e.p = true := ha.2
    have t2 : lessL e.p b.p = true := hb.2
    rw [e1, less_not _ _ t2] at t1
    cases t1
   obtain ⟨i, hi⟩ := List.getElem?_of_mem ha.1
   obtain ⟨k, hk⟩ := List.getElem?_of_mem hb.1
   obtain ⟨li, ei⟩ := List.getElem?_eq_some_iff.1 hi
   obtain ⟨lk, ek⟩ := List.getElem?_eq_some_iff.1 hk
   rcases Nat.lt_trichotomy i k with c | c | c
   ·
    have := List.pairwise_iff_getElem.1 h.2.1 i k li lk c
    rw [ei, ek] at this
    exact this q
   ·
    subst c
    rw [hi] at hk
    cases hk
    exact ne rfl
   ·
    have := List.pairwise_iff_getElem.1 h.2.1 k i lk li c
    rw [ei, ek] at this
    exact dotNe_comm this q
  refine ⟨h.2.1.sublist List.filter_sublist, ⟨dots_up ok.2.2.1, h.2.1.sublist List.filter_sublist, fun a ha b hb => ?_⟩, fun a ha b hb => ?_⟩
  ·
   have hb := List.mem_filter.1 hb
   exact sep a ha b hb.1 (fun q => less_ne (show lessL e.p b.p = true from hb.2) q.symm)
  ·
   rcases List.mem_append.1 hb with q | q
   ·
    have ha := List.mem_filter.1 ha
    exact dotNe_comm (sep b q a ha.1 (less_ne (show lessL a.p e.p = true from ha.2)))
   ·
    exact sub a ha b q
 ·
  have key : ∀ p, ShOk (atS (putS s e) p) := fun p => by
   unfold putS
   rw [atS_app, atS_app]
   by_cases hp : p = e.p
   ·
    subst hp
    rw [atS_none (a := s.filter (fun x => lessL x.p e.p)) (fun x hx => less_ne (List.mem_filter.1 hx).2), atS_none (a := s.filter (fun x => lessL e.p x.p)) (fun x hx q => less_ne (List.mem_filter.1 hx).2 q.symm), atS_all putE_path]
    simpa using ok
   ·
    rw [atS_none (a := putE (atS s e.p) e) (fun x hx q => hp (q.symm.trans (putE_path x hx))), List.nil_append]
    rcases less_tri p e.p with q | q | q
    ·
     exact absurd q hp
    ·
     rw [atS_filter (a := s) (q := fun x => lessL x.p e.p) (fun x _ ex => by show lessL x.p e.p = true; rw [ex]; exact q), atS_none (a := s.filter (fun x => lessL e.p x.p)) (fun x hx ex => by
      have t := (List.mem_filter.1 hx).2
      have t : lessL e.p x.p = true := t
      rw [ex, less_not _ _ q] at t
      cases t), List.append_nil]
     exact stOk_at h p
    ·
     rw [atS_filter (a := s) (q := fun x => lessL e.p x.p) (fun x _ ex => by show lessL e.p x.p = true; rw [ex]; exact q), atS_none (a := s.filter (fun x => lessL x.p e.p)) (fun x hx ex => by
      have t := (List.mem_filter.1 hx).2
      have t : lessL x.p e.p = true := t
      rw [ex, less_not _ _ q] at t
      cases t), List.nil_append]
     exact stOk_at h p
  exact key x.p
theorem stPut_yes {s : List EvP} {e : EvP} (h : StOk s) (he : chkEv e = 0) (hn : elseE s e = false) : stPut s e = (0, putS s e) := by
 unfold stPut
 rw [if_neg (fun q => q ⟨h, he⟩), if_neg (by rw [hn]; decide)]
end
section
open Go.RowKit Go.Lib

def StOk0 (s : List EvP) : Prop := s.Pairwise leP ∧ ∀ e ∈ s, ShOk (atS s e.p)
theorem stOk_iff {s : List EvP} : StOk s ↔ StOk0 s ∧ s.Pairwise dotNe := by
 unfold StOk StOk0
 exact ⟨fun h => ⟨⟨h.1, h.2.2⟩, h.2.1⟩, fun h => ⟨h.1.1, h.2, h.1.2⟩⟩
theorem shOk_sub {l m : List EvP} (h : ShOk m) (s : l.Sublist m) : ShOk l :=
 ⟨fun e he => h.1 e (s.subset he), fun e he f hf => h.2.1 e (s.subset he) f (s.subset hf), h.2.2.1.sublist s, fun e he f hf => h.2.2.2 e (s.subset he) f (s.subset hf)⟩
theorem shOk_nil : ShOk [] := by simp [ShOk]
theorem st0_nil : StOk0 [] := ⟨List.Pairwise.nil, by simp⟩
theorem st0_run {s r : List EvP} (h : StOk0 s) (hr : ShOk r) (hp : ∀ x ∈ s, ∀ y ∈ r, lessL x.p y.p = true) : StOk0 (s ++ r) := by
 refine ⟨List.pairwise_append.2 ⟨h.1, ?_, fun a ha b hb => .inr (hp a ha b hb)⟩, fun e he => ?_⟩
 ·
  rw [List.pairwise_iff_forall_sublist]
  intro a b hab
  exact .inl (hr.2.1 a (hab.subset (by simp)) b (hab.subset (by simp)))
 ·
  rw [atS_app]
  rcases List.mem_append.1 he with q | q
  ·
   rw [atS_none (a := r) (fun y hy ey => less_ne (hp e q y hy) ey.symm), List.append_nil]
   exact h.2 e q
  ·
   rw [atS_none (a := s) (fun y hy => less_ne (hp y hy e q)), atS_all (a := r) (fun x hx => hr.2.1 x hx e q), List.nil_append]
   exact hr
theorem st0_run_no {s r t : List EvP} {p : List UInt8} (hr : ∀ x ∈ r, x.p = p) (h : StOk0 (s ++ (r ++ t))) : ShOk r := by
 rcases r with _ | ⟨e, r⟩
 ·
  exact shOk_nil
 ·
  have q := h.2 e (by simp)
  rw [hr e (by simp)] at q
  refine shOk_sub q ?_
  rw [atS_app, atS_app, atS_all hr]
  exact (List.sublist_append_left _ _).trans (List.sublist_append_right _ _)
theorem st0_less {s : List EvP} {i k : Nat} {a b : EvP} (h : s.Pairwise leP) (ha : s[i]? = some a) (hb : s[k]? = some b) (hik : i < k) (hne : a.p ≠ b.p) : lessL a.p b.p = true := by
 obtain ⟨li, ei⟩ := List.getElem?_eq_some_iff.1 ha
 obtain ⟨lk, ek⟩ := List.getElem?_eq_some_iff.1 hb
 have := List.pairwise_iff_getElem.1 h i k li lk hik
 rw [ei, ek] at this
 rcases this with q | q
 ·
  exact absurd q hne
 ·
  exact q
def segL {α : Type} (l : List α) (k m : Nat) : List α := (l.take m).drop k
theorem take_seg {α : Type} (l : List α) {k m : Nat} (h : k ≤ m) : l.take m = l.take k ++ segL l k m := by
 unfold segL
 have := (List.take_append_drop k (l.take m)).symm
 rw [List.take_take, Nat.min_eq_left h] at this
 exact this
theorem seg_all {α : Type} (l : List α) {k m : Nat} (h : k ≤ m) : l = l.take k ++ (segL l k m ++ l.drop m) := by
 rw [← List.append_assoc, ← take_seg l h, List.take_append_drop]
theorem seg_len {α : Type} (l : List α) {k m : Nat} (h : m ≤ l.length) : (segL l k m).length = m - k := by
 unfold segL
 rw [List.length_drop, List.length_take, Nat.min_eq_left h]
theorem seg_get {α : Type} (l : List α) {k m i : Nat} (h : k + i < m) : (segL l k m)[i]? = l[k + i]? := by
 unfold segL
 rw [List.getElem?_drop, List.getElem?_take, if_pos h]
theorem seg_get_no {α : Type} (l : List α) {k m i : Nat} (h : ¬ k + i < m) : (segL l k m)[i]? = none := by
 unfold segL
 rw [List.getElem?_drop, List.getElem?_take, if_neg h]
def pathE (es : List EvP) (i : Nat) : Option (List UInt8) := (es[i]?).map (fun e => e.p)
structure RunAt (es : List EvP) (k m : Nat) : Prop where
 lt : k < m
 le : m ≤ es.length
 same : ∀ i, k ≤ i → i < m → pathE es i = pathE es k
 stop : m < es.length → pathE es m ≠ pathE es k
theorem pathE_some {es : List EvP} {i : Nat} {e : EvP} (h : es[i]? = some e) : pathE es i = some e.p := by
 unfold pathE
 rw [h]
 rfl
theorem RunAt.seg_path {es : List EvP} {k m : Nat} (h : RunAt es k m) {b : EvP} (hb : es[k]? = some b) : ∀ x ∈ segL es k m, x.p = b.p := fun x hx => by
 obtain ⟨i, hi⟩ := List.getElem?_of_mem hx
 by_cases q : k + i < m
 ·
  rw [seg_get es q] at hi
  have := h.same (k + i) (by omega) q
  rw [pathE_some hi, pathE_some hb] at this
  exact Option.some.inj this
 ·
  rw [seg_get_no es q] at hi
  cases hi
theorem run_step {es : List EvP} {j k m : Nat} {a b : EvP} (h0 : StOk0 (es.take k)) (h : RunAt es k m) (hb : es[k]? = some b) (hsh : ShOk (segL es k m)) (hk : k = 0 ∨ (RunAt es j k ∧ es[j]? = some a ∧ lessL a.p b.p = true)) : StOk0 (es.take m) := by
 rw [take_seg es (Nat.le_of_lt h.lt)]
 refine st0_run h0 hsh (fun x hx y hy => ?_)
 rw [h.seg_path hb y hy]
 rcases hk with rfl | ⟨r, ha, hl⟩
 ·
  simp at hx
 ·
  obtain ⟨i, hi⟩ := List.getElem?_of_mem hx
  have ik : i < k := by
   rw [List.getElem?_take] at hi
   split at hi
   ·
    assumption
   ·
    cases hi
  by_cases q : x.p = a.p
  ·
   rw [q]; exact hl
  ·
   refine less_trans _ _ _ ?_ hl
   by_cases ij : i < j
   ·
    exact st0_less h0.1 hi (by rw [List.getElem?_take, if_pos r.lt]; exact ha) ij q
   ·
    rw [List.getElem?_take, if_pos ik] at hi
    have := r.same i (by omega) ik
    rw [pathE_some hi, pathE_some ha] at this
    exact absurd (Option.some.inj this) q
theorem run_bad1 {es : List EvP} {k m : Nat} {b : EvP} (h : RunAt es k m) (hb : es[k]? = some b) (no : ¬ ShOk (segL es k m)) : ¬ StOk es := fun q => no (by
 have q := (stOk_iff.1 q).1
 rw [seg_all es (Nat.le_of_lt h.lt)] at q
 exact st0_run_no (h.seg_path hb) q)
theorem run_bad2 {es : List EvP} {j k : Nat} {a b : EvP} (r : RunAt es j k) (ha : es[j]? = some a) (hb : es[k]? = some b) (no : lessL a.p b.p = false) : ¬ StOk es := fun q => by
 have hk : k < es.length := (List.getElem?_eq_some_iff.1 hb).1
 have := st0_less q.1 ha hb r.lt (fun e => r.stop hk (by rw [pathE_some ha, pathE_some hb, e]))
 rw [no] at this
 cases this
/-! How many different ones there are -/
theorem addKey_len : ∀ (l acc : List Lit), (l.foldl Go.Maps.addKey acc).length ≤ acc.length + l.length
 | [], acc => Nat.le_refl _
 | x :: l, acc => by
  rw [List.foldl_cons]
  refine Nat.le_trans (addKey_len l _) ?_
  unfold Go.Maps.addKey
  split <;> simp <;> omega
theorem addKey_full (isK : ∀ x : Lit, WideAt.IsKeyLit x → x.sameKey x = true) : ∀ (l acc : List Lit), (∀ x ∈ l, WideAt.IsKeyLit x) → (∀ x ∈ acc, WideAt.IsKeyLit x) → ((l.foldl Go.Maps.addKey acc).length = acc.length + l.length ↔ (∀ x ∈ l, x ∉ acc) ∧ l.Pairwise (· ≠ ·))
 | [], acc, _, _ => by simp
 | x :: l, acc, hl, ha => by
  rw [List.foldl_cons]
  by_cases q : x ∈ acc
  ·
   have e : Go.Maps.addKey acc x = acc := by
    unfold Go.Maps.addKey
    have hany : acc.any (fun y => y.sameKey x) = true := List.any_eq_true.2 ⟨x, q, isK x (hl x (by simp))⟩
    rw [if_pos hany]
   rw [e]
   constructor
   ·
    intro h
    have := addKey_len l acc
    simp at h
    omega
   ·
    intro h
    exact absurd q (h.1 x (by simp))
  ·
   have e : Go.Maps.addKey acc x = acc ++ [x] := by
    unfold Go.Maps.addKey
    rw [if_neg]
    intro h
    obtain ⟨y, hy, hs⟩ := List.any_eq_true.1 h
    exact q (WideAt.sameKey_eq hs ▸ hy)
   rw [e]
   have ih := addKey_full isK l (acc ++ [x]) (fun y hy => hl y (by simp [hy])) (fun y hy => by
    rcases List.mem_append.1 hy with r | r
    ·
     exact ha y r
    ·
     simp at r; rw [r]; exact hl x (by simp))
   have e2 : (acc ++ [x]).length + l.length = acc.length + (x :: l).length := by simp; omega
   rw [← e2, ih]
   constructor
   ·
    rintro ⟨h1, h2⟩
    refine ⟨fun y hy => ?_, List.pairwise_cons.2 ⟨fun y hy ey => h1 y hy (by simp [ey]), h2⟩⟩
    rcases List.mem_cons.1 hy with r | r
    ·
     rw [r]; exact q
    ·
     exact fun m => h1 y r (by simp [m])
   ·
    rintro ⟨h1, h2⟩
    have hp := List.pairwise_cons.1 h2
    refine ⟨fun y hy m => ?_, hp.2⟩
    rcases List.mem_append.1 m with r | r
    ·
     exact h1 y (by simp [hy]) r
    ·
     simp at r; exact hp.1 y hy r.symm
theorem setOf_full {H : Type} (u : DataW H) (l : List Lit) (h : ∀ x ∈ l, WideAt.IsKeyLit x) : Go.Maps.size (Go.Maps.setOf u l) ≤ l.length ∧ (Go.Maps.size (Go.Maps.setOf u l) = l.length ↔ l.Pairwise (· ≠ ·)) := by
 have e : Go.Maps.size (Go.Maps.setOf u l) = (l.foldl Go.Maps.addKey []).length := Go.Maps.size_setOf u l h
 have a := addKey_len l []
 have b := addKey_full (fun x hx => WideAt.sameKey_self hx) l [] h (by simp)
 simp only [List.length_nil, Nat.zero_add] at a b
 rw [e]
 refine ⟨a, b.trans ⟨fun q => q.2, fun q => ⟨by simp, q⟩⟩⟩
def dotLit (e : EvP) : Lit := .string (keyBytes [.int .i64 e.n, .int .i64 e.s])
theorem dotLit_key (e : EvP) : WideAt.IsKeyLit (dotLit e) := trivial
def dotSetE (es : List EvP) : DataW Unit := Go.Maps.setOf (.agg []) (es.map dotLit)
theorem dotSetE_snoc (es : List EvP) (e : EvP) : dotSetE (es ++ [e]) = (dotSetE es).put (dotLit e) (.agg []) := by
 unfold dotSetE
 rw [List.map_append]
 exact Go.Maps.setOf_snoc _ _ _
theorem dotSetE_len (es : List EvP) (inj : ∀ a ∈ es, ∀ b ∈ es, dotLit a = dotLit b ↔ (a.n = b.n ∧ a.s = b.s)) : Go.Maps.size (dotSetE es) ≤ es.length ∧ (¬ Go.Maps.size (dotSetE es) < es.length ↔ es.Pairwise dotNe) := by
 have h := setOf_full (H := Unit) (.agg []) (es.map dotLit) (fun x hx => by
  obtain ⟨e, _, rfl⟩ := List.mem_map.1 hx
  exact dotLit_key e)
 rw [List.length_map] at h
 refine ⟨h.1, ?_⟩
 have e1 : (¬ Go.Maps.size (dotSetE es) < es.length) ↔ Go.Maps.size (dotSetE es) = es.length := by
  have := h.1
  unfold dotSetE
  omega
 rw [e1]
 unfold dotSetE
 rw [h.2, List.pairwise_map]
 constructor
 ·
  intro q
  exact List.Pairwise.imp_of_mem (fun {a b} ha hb hab r => hab ((inj a ha b hb).2 r)) q
 ·
  intro q
  exact List.Pairwise.imp_of_mem (fun {a b} ha hb hab r => hab ((inj a ha b hb).1 r)) q
end
section
open Go.RowKit Go.Lib

theorem filter_parts {α : Type} {s : List α} {f : α → Bool} {i j : Nat} (ij : i ≤ j) (a : ∀ p x, s[p]? = some x → p < i → f x = false) (b : ∀ p x, s[p]? = some x → i ≤ p → p < j → f x = true) (c : ∀ p x, s[p]? = some x → j ≤ p → f x = false) : s.filter f = segL s i j := by
 have e := seg_all s ij
 have h1 : (s.take i).filter f = [] := List.filter_eq_nil_iff.2 (fun x hx => by
  obtain ⟨p, hp⟩ := List.getElem?_of_mem hx
  rw [List.getElem?_take] at hp
  split at hp
  ·
   rename_i q; rw [a p x hp q]; decide
  ·
   cases hp)
 have h2 : (segL s i j).filter f = segL s i j := List.filter_eq_self.2 (fun x hx => by
  obtain ⟨p, hp⟩ := List.getElem?_of_mem hx
  by_cases q : i + p < j
  ·
   rw [seg_get s q] at hp; exact b _ x hp (by omega) q
  ·
   rw [seg_get_no s q] at hp; cases hp)
 have h3 : (s.drop j).filter f = [] := List.filter_eq_nil_iff.2 (fun x hx => by
  obtain ⟨p, hp⟩ := List.getElem?_of_mem hx
  rw [List.getElem?_drop] at hp
  rw [c _ x hp (by omega)]; decide)
 conv => lhs; rw [e]
 rw [List.filter_append, List.filter_append, h1, h2, h3, List.append_nil, List.nil_append]
theorem seg_zero {α : Type} (s : List α) (i : Nat) : segL s 0 i = s.take i := by unfold segL; rfl
theorem seg_end {α : Type} (s : List α) (j : Nat) : segL s j s.length = s.drop j := by unfold segL; rw [List.take_length]
def LoP (s : List EvP) (q : List UInt8) (i : Nat) : Prop := ∀ p x, s[p]? = some x → p < i → lessL x.p q = true
def HiP (s : List EvP) (q : List UInt8) (i : Nat) : Prop := ∀ p x, s[p]? = some x → i ≤ p → lessL x.p q = false
theorem leP_at {s : List EvP} (h : s.Pairwise leP) {i k : Nat} {a b : EvP} (ha : s[i]? = some a) (hb : s[k]? = some b) (hik : i < k) : leP a b := by
 obtain ⟨li, ei⟩ := List.getElem?_eq_some_iff.1 ha
 obtain ⟨lk, ek⟩ := List.getElem?_eq_some_iff.1 hb
 have := List.pairwise_iff_getElem.1 h i k li lk hik
 rwa [ei, ek] at this
theorem loP_next {s : List EvP} {q : List UInt8} (h : s.Pairwise leP) {k : Nat} {x : EvP} (hx : s[k]? = some x) (hc : lessL x.p q = true) : LoP s q (k + 1) := by
 intro p y hy hp
 by_cases e : p = k
 ·
  subst e; rw [hx] at hy; cases hy; exact hc
 ·
  rcases leP_at h hy hx (by omega) with r | r
  ·
   rw [r]; exact hc
  ·
   exact less_trans _ _ _ r hc
theorem hiP_next {s : List EvP} {q : List UInt8} (h : s.Pairwise leP) {k : Nat} {x : EvP} (hx : s[k]? = some x) (hc : lessL x.p q = false) : HiP s q k := by
 intro p y hy hp
 by_cases e : p = k
 ·
  subst e; rw [hx] at hy; cases hy; exact hc
 ·
  rcases leP_at h hx hy (by omega) with r | r
  ·
   rw [← r]; exact hc
  ·
   rcases t : lessL y.p q with _ | _
   ·
    rfl
   ·
    rw [less_trans _ _ _ r t] at hc; cases hc
theorem place_parts {s : List EvP} {q : List UInt8} {i j : Nat} (h : s.Pairwise leP) (ij : i ≤ j) (jl : j ≤ s.length) (lo : LoP s q i) (hi : HiP s q i) (mid : ∀ p x, s[p]? = some x → i ≤ p → p < j → x.p = q) (st : ∀ x, s[j]? = some x → x.p ≠ q) : s.take i = s.filter (fun x => lessL x.p q) ∧ segL s i j = atS s q ∧ s.drop j = s.filter (fun x => lessL q x.p) := by
 have back : ∀ p x, s[p]? = some x → j ≤ p → lessL q x.p = true := fun p x hx hp => by
  have jlt : j < s.length := by have := (List.getElem?_eq_some_iff.1 hx).1; omega
  obtain ⟨y, hy⟩ : ∃ y, s[j]? = some y := ⟨_, List.getElem?_eq_getElem jlt⟩
  have hy1 : lessL q y.p = true := by
   rcases less_tri y.p q with r | r | r
   ·
    exact absurd r (st y hy)
   ·
    rw [hi j y hy ij] at r; cases r
   ·
    exact r
  by_cases e : p = j
  ·
   subst e; rw [hx] at hy; cases hy; exact hy1
  ·
   rcases leP_at h hy hx (by omega) with r | r
   ·
    rw [← r]; exact hy1
   ·
    exact less_trans _ _ _ hy1 r
 refine ⟨?_, ?_, ?_⟩
 ·
  rw [← seg_zero]
  exact (filter_parts (Nat.zero_le _) (fun p x hx hp => absurd hp (by omega)) (fun p x hx _ hp => lo p x hx hp) (fun p x hx hp => hi p x hx hp)).symm
 ·
  unfold atS
  exact (filter_parts ij (fun p x hx hp => decide_eq_false (less_ne (lo p x hx hp))) (fun p x hx h1 h2 => decide_eq_true (mid p x hx h1 h2)) (fun p x hx hp => decide_eq_false (fun e => less_ne (back p x hx hp) e.symm))).symm
 ·
  rw [← seg_end]
  refine (filter_parts jl (fun p x hx hp => ?_) (fun p x hx h1 _ => back p x hx h1) (fun p x hx hp => absurd (List.getElem?_eq_some_iff.1 hx).1 (by omega))).symm
  by_cases r : p < i
  ·
   exact less_not _ _ (lo p x hx r)
  ·
   rw [mid p x hx (by omega) hp]; exact less_self q
/-! All paths, each once -/
def addP (acc : List (List UInt8)) (p : List UInt8) : List (List UInt8) := if p ∈ acc then acc else acc ++ [p]
def pathsE (es : List EvP) : List (List UInt8) := es.foldl (fun acc e => addP acc e.p) []
theorem addP_in (acc : List (List UInt8)) (p : List UInt8) : p ∈ addP acc p := by
 unfold addP
 split
 ·
  assumption
 ·
  simp
theorem addP_same {p : List UInt8} : ∀ (l : List EvP) (acc : List (List UInt8)), p ∈ acc → (∀ x ∈ l, x.p = p) → l.foldl (fun acc e => addP acc e.p) acc = acc
 | [], _, _, _ => rfl
 | x :: l, acc, h, hl => by
  rw [List.foldl_cons, hl x (by simp)]
  have e : addP acc p = acc := by unfold addP; rw [if_pos h]
  rw [e]
  exact addP_same l acc h (fun y hy => hl y (by simp [hy]))
theorem paths_run {es : List EvP} {k m : Nat} {b : EvP} (h : RunAt es k m) (hb : es[k]? = some b) : pathsE (es.take m) = addP (pathsE (es.take k)) b.p := by
 have sp := h.seg_path hb
 rw [take_seg es (Nat.le_of_lt h.lt)]
 unfold pathsE
 rw [List.foldl_append]
 have hb0 : (segL es k m)[0]? = some b := by rw [seg_get es (by have := h.lt; omega)]; exact hb
 rcases hs : segL es k m with _ | ⟨x, l⟩
 ·
  rw [hs] at hb0; cases hb0
 ·
  rw [hs] at hb0 sp
  cases hb0
  rw [List.foldl_cons]
  exact addP_same l _ (addP_in _ _) (fun y hy => sp y (by simp [hy]))
end
section
open Go.RowKit Go.Lib


theorem pathsE_snoc {es : List EvP} {k : Nat} {e : EvP} (h : es[k]? = some e) : pathsE (es.take (k + 1)) = addP (pathsE (es.take k)) e.p := by
 unfold pathsE
 rw [List.take_add_one, h, List.foldl_append]
 rfl
theorem pathsE_len (es : List EvP) : (pathsE es).length ≤ es.length := by
 have key : ∀ (l : List EvP) (acc : List (List UInt8)), (l.foldl (fun acc e => addP acc e.p) acc).length ≤ acc.length + l.length := by
  intro l
  induction l with
  | nil => intro acc; simp
  | cons x l ih =>
   intro acc
   rw [List.foldl_cons]
   have := ih (addP acc x.p)
   have h2 : (addP acc x.p).length ≤ acc.length + 1 := by unfold addP; split <;> simp
   rw [List.length_cons]
   omega
 have := key es []
 unfold pathsE
 simpa using this
theorem any_mem (ps : List (List UInt8)) (p : List UInt8) : ps.any (fun q => decide (q = p)) = decide (p ∈ ps) := by
 rw [Bool.eq_iff_iff, List.any_eq_true, decide_eq_true_eq]
 constructor
 ·
  rintro ⟨q, h, e⟩
  rw [← of_decide_eq_true e]
  exact h
 ·
  intro h
  exact ⟨p, h, decide_eq_true rfl⟩

set_option maxRecDepth 100000 in
set_option maxHeartbeats 16000000 in
theorem ktpaths_any (w : World) (A : Option Addr) (c : Nat) (xs : List EvT) (es : List EvP) (h : RdK evTy w A xs.length xs) (hx : EvsR w xs es) (hn : xs.length ≤ 100000) :
  Calls Tryz.prog 29 #[.slice A xs.length c] w fun r w' => ∃ (B : Option Addr) (d : Nat), r = .returned (.slice B (pathsE es).length d) ∧ RdK textTy w' B (pathsE es).length (pathsE es) ∧ Chg [] w w' := by

 have HA := Lib.hid h
 have HX := Lib.hid hx
 have HN := Lib.hid hn
 clear h hx hn
 go_enter Tryz.func29, Tryz.ntmps29
 go_wp2
 go_loopw [3, 4, 5, 6] (fun v3 v4 _ _ wr => ∃ (k n : Nat) (A1 : Option Addr) (d1 : Nat) (ps : List (List UInt8)), k ≤ xs.length ∧ v4 = .int .i64 (k : Int) ∧ v3 = .slice A1 n d1 ∧ Hid (ps = pathsE (es.take k)) ∧ Hid (ps.length = n) ∧ Hid (OwnK textTy wr A1 d1 ps) ∧ Hid (∀ a, A1 = some a → w.heap.size ≤ a.block) ∧ Hid (Chg [] w wr)) (fun _ v4 _ _ _ => xs.length - (RowKit.intOf v4).toNat)
 case atStart => exact ⟨0, 0, none, 0, [], Nat.zero_le _, rfl, rfl, Lib.hid rfl, Lib.hid rfl, OwnK.none_ _, Lib.hid (by simp), Chg.refl _ _⟩
 case round =>
  obtain ⟨k, n, A1, d1, ps, hk, rfl, rfl, PS, PN, OD, NA, PC⟩ := hrel
  generalize wr = wo at *
  clear wr
  have j0 : (0 : Int) ≤ (k : Int) := by omega
  by_cases hlt : k < xs.length
  ·
   have j1 : (k : Int) < (xs.length : Int) := by omega
   have j3 : IntKind.i64.wrap ((k : Int) + 1) = (k : Int) + 1 := IntWalk.i64_in _ (by have := HN.out; omega)
   obtain ⟨g3, o3, eA, _⟩ := HA.out.line (by omega)
   have EA := Lib.hid eA
   obtain ⟨x, e, ex, ee, rx⟩ := HX.out.at_ hlt
   have EX := Lib.hid ex
   have XP := Lib.hid rx.p
   have NXT : Hid (pathsE (es.take (k + 1)) = addP ps e.p) := Lib.hid (by rw [PS.out]; exact pathsE_snoc ee)
   have NL : Hid (n ≤ 100000) := Lib.hid (by have := PN.out; have q := pathsE_len (es.take k); rw [← PS.out, List.length_take] at q; have := HN.out; omega)
   clear ex ee rx
   rw [eA]
   clear eA; go_wp2
   go_loopw [5, 6] (fun v5 v6 wr => ∃ (i : Nat), i ≤ n ∧ v6 = .int .i64 (i : Int) ∧ v5 = .bool ((ps.take i).any (fun q => decide (q = e.p))) ∧ Hid (Chg [] wo wr)) (fun _ v6 _ => n - (RowKit.intOf v6).toNat)
   case atStart => exact ⟨0, Nat.zero_le _, rfl, rfl, Chg.refl _ _⟩
   case round =>
    obtain ⟨i, hi, rfl, rfl, QC⟩ := hrel
    have i0 : (0 : Int) ≤ (i : Int) := by omega
    by_cases hil : i < n
    ·
     have i1 : (i : Int) < (n : Int) := by omega
     have i3 : IntKind.i64.wrap ((i : Int) + 1) = (i : Int) + 1 := IntWalk.i64_in _ (by have := NL.out; omega)
     have RD := OD.out.reads
     rw [PN.out] at RD
     obtain ⟨g4, o4, eB, _⟩ := RD.line (by omega)
     subst eB
     obtain ⟨q, hq⟩ : ∃ q, ps[i]? = some q := ⟨_, List.getElem?_eq_getElem (by have := PN.out; omega)⟩
     have HQ := Lib.hid hq
     have RDH := Lib.hid RD
     have ET : Hid ((ps.take (i + 1)).any (fun q => decide (q = e.p)) = ((ps.take i).any (fun q => decide (q = e.p)) || decide (q = e.p))) := Lib.hid (by rw [List.take_add_one, hq, List.any_append]; simp)
     have HC : Hid (∀ w', Chg [] wr w' → w'.cell? ⟨g4, o4 + i, none⟩ = some (.string (strOf q)) ∧ w'.cell? ⟨g3, o3 + k * 7 + 2, none⟩ = some (.string (strOf e.p))) := Lib.hid (fun w' hc => by
      refine ⟨textCells (RDH.out.chg (QC.out.trans hc) (by simp)) HQ.out, ?_⟩
      have c := (evCells ((EA.out ▸ HA.out).chg (PC.out.trans (QC.out.trans hc)) (by simp)) EX.out).2.2.1
      rw [XP.out] at c
      exact c)
     clear hq RD
     rcases hb : (ps.take i).any (fun q => decide (q = e.p)) with _ | _
     ·
      skip
      by_cases hd : q = e.p
      ·
       skip
       have EB : Hid ((ps.take (i + 1)).any (fun q => decide (q = e.p)) = true) := Lib.hid (by rw [ET.out, hb, decide_eq_true hd]; rfl)
       have e4 : (q == e.p) = true := by rw [hd]; exact beq_self_eq_true _
       have e5 : ((strOf q == strOf e.p) : Bool) = true := by rw [hd]; show ((e.p.toArray == e.p.toArray) : Bool) = true; simp
       clear hb hd
       go_upto_region 9 with fail
       refine wp_region_held_drew (S := fun w' => Chg [] wr w') (by kernel_rfl) (Chg.refl [] wr).drew (fun hHeld => ?_)
       refine sy 0 19 rfl rfl ?_; try simp only [Act.put, sA, s0, s1]
       refine sy 1 20 rfl rfl ?_; try simp only [Act.put, sA, s0, s1]
       refine sy 2 21 rfl rfl ?_; try simp only [Act.put, sA, s0, s1]
       refine sy 3 22 rfl rfl ?_; try simp only [Act.put, sA, s0, s1]
       refine sy 4 23 rfl rfl ?_; try simp only [Act.put, sA, s0, s1]
       refine sy 5 24 rfl rfl ?_ (hy := by (intro w hSw; (try dsimp only at hSw); have hq := HC.out _ hSw; obtain ⟨q0, q1⟩ := hq; go_simp; try with_reducible rfl))
       try simp only [Act.put, sA, s0, s1]
       refine sy 6 25 rfl rfl ?_; try simp only [Act.put, sA, s0, s1]
       refine sy 7 26 rfl rfl ?_; try simp only [Act.put, sA, s0, s1]
       refine sy 8 27 rfl rfl ?_; try simp only [Act.put, sA, s0, s1]
       refine sy 9 28 rfl rfl ?_; try simp only [Act.put, sA, s0, s1]
       refine sy 10 29 rfl rfl ?_ (hy := by (intro w hSw; (try dsimp only at hSw); have hq := HC.out _ hSw; obtain ⟨q0, q1⟩ := hq; go_simp; try with_reducible rfl))
       try simp only [Act.put, sA, s0, s1]
       refine sy 11 30 rfl rfl ?_; try simp only [Act.put, sA, s0, s1]
       refine sy 12 31 rfl rfl ?_; try simp only [Act.put, sA, s0, s1]
       refine sy 13 5 rfl rfl ?_; try simp only [Act.put, sA, s0, s1]
       refine wpAnyH_done (by kernel_rfl) ?_ _
       replace QC := Lib.hid (QC.out.trans hHeld)
       clear hHeld HC; go_wp2; go_round
       case rel => exact ⟨i + 1, by omega, by go_num, by rw [EB.out], QC⟩
       case measure => simp [RowKit.intOf]; omega
      ·
       skip
       have EB : Hid ((ps.take (i + 1)).any (fun q => decide (q = e.p)) = false) := Lib.hid (by rw [ET.out, hb, decide_eq_false hd]; rfl)
       have e1 := strOf_ne hd
       have e3 := strOf_ne2 hd
       have e4 : (q == e.p) = false := beq_eq_false_iff_ne.2 hd
       clear hb
       go_upto_region 9 with fail
       refine wp_region_held_drew (S := fun w' => Chg [] wr w') (by kernel_rfl) (Chg.refl [] wr).drew (fun hHeld => ?_)
       refine sy 0 19 rfl rfl ?_; try simp only [Act.put, sA, s0, s1]
       refine sy 1 20 rfl rfl ?_; try simp only [Act.put, sA, s0, s1]
       refine sy 2 21 rfl rfl ?_; try simp only [Act.put, sA, s0, s1]
       refine sy 3 22 rfl rfl ?_; try simp only [Act.put, sA, s0, s1]
       refine sy 4 23 rfl rfl ?_; try simp only [Act.put, sA, s0, s1]
       refine sy 5 24 rfl rfl ?_ (hy := by (intro w hSw; (try dsimp only at hSw); have hq := HC.out _ hSw; obtain ⟨q0, q1⟩ := hq; go_simp; try with_reducible rfl))
       try simp only [Act.put, sA, s0, s1]
       refine sy 6 25 rfl rfl ?_; try simp only [Act.put, sA, s0, s1]
       refine sy 7 26 rfl rfl ?_; try simp only [Act.put, sA, s0, s1]
       refine sy 8 27 rfl rfl ?_; try simp only [Act.put, sA, s0, s1]
       refine sy 9 28 rfl rfl ?_; try simp only [Act.put, sA, s0, s1]
       refine sy 10 29 rfl rfl ?_ (hy := by (intro w hSw; (try dsimp only at hSw); have hq := HC.out _ hSw; obtain ⟨q0, q1⟩ := hq; go_simp; try with_reducible rfl))
       try simp only [Act.put, sA, s0, s1]
       refine sy 11 30 rfl rfl ?_; try simp only [Act.put, sA, s0, s1]
       refine sy 12 31 rfl rfl ?_; try simp only [Act.put, sA, s0, s1]
       refine sy 13 5 rfl rfl ?_; try simp only [Act.put, sA, s0, s1]
       refine wpAnyH_done (by kernel_rfl) ?_ _
       replace QC := Lib.hid (QC.out.trans hHeld)
       clear hHeld HC; go_wp2; go_round
       case rel => exact ⟨i + 1, by omega, by go_num, by rw [EB.out], QC⟩
       case measure => simp [RowKit.intOf]; omega
     ·
      skip
      have EB : Hid ((ps.take (i + 1)).any (fun q => decide (q = e.p)) = true) := Lib.hid (by rw [ET.out, hb]; rfl)
      clear hb
      go_upto_region 9 with fail
      refine wp_region_held_drew (S := fun w' => Chg [] wr w') (by kernel_rfl) (Chg.refl [] wr).drew (fun hHeld => ?_)
      refine sy 0 19 rfl rfl ?_; try simp only [Act.put, sA, s0, s1]
      refine sy 1 20 rfl rfl ?_; try simp only [Act.put, sA, s0, s1]
      refine sn 2 21 rfl rfl ?_; try simp only [Act.put, sA, s0, s1]
      refine sn 3 22 rfl rfl ?_; try simp only [Act.put, sA, s0, s1]
      refine sn 4 23 rfl rfl ?_; try simp only [Act.put, sA, s0, s1]
      refine sn 5 24 rfl rfl ?_; try simp only [Act.put, sA, s0, s1]
      refine sn 6 25 rfl rfl ?_; try simp only [Act.put, sA, s0, s1]
      refine sn 7 26 rfl rfl ?_; try simp only [Act.put, sA, s0, s1]
      refine sn 8 27 rfl rfl ?_; try simp only [Act.put, sA, s0, s1]
      refine sn 9 28 rfl rfl ?_; try simp only [Act.put, sA, s0, s1]
      refine sn 10 29 rfl rfl ?_; try simp only [Act.put, sA, s0, s1]
      refine sn 11 30 rfl rfl ?_; try simp only [Act.put, sA, s0, s1]
      refine sy 12 31 rfl rfl ?_; try simp only [Act.put, sA, s0, s1]
      refine sy 13 5 rfl rfl ?_; try simp only [Act.put, sA, s0, s1]
      refine wpAnyH_done (by kernel_rfl) ?_ _
      replace QC := Lib.hid (QC.out.trans hHeld)
      clear hHeld HC; go_wp2; go_round
      case rel => exact ⟨i + 1, by omega, by go_num, by rw [EB.out], QC⟩
      case measure => simp [RowKit.intOf]; omega
    ·
     obtain rfl : i = n := by omega
     have i1 : ¬ (i : Int) < (i : Int) := by omega
     have ET : ps.take i = ps := by rw [← PN.out, List.take_length]
     rw [ET, any_mem]
     clear ET
     replace PC := Lib.hid (PC.out.trans QC.out)
     replace OD := Lib.hid (OD.out.chg QC.out (by simp))
     clear QC
     by_cases hin : e.p ∈ ps
     ·
      have NP : Hid (ps = pathsE (es.take (k + 1))) := Lib.hid (by rw [NXT.out]; unfold addP; rw [if_pos hin])
      rw [decide_eq_true hin]
      clear hin; go_wp2; go_round
      case rel => exact ⟨k + 1, i, A1, d1, ps, by omega, by go_num, rfl, NP, PN, OD, NA, PC⟩
      case measure => simp [RowKit.intOf]; omega
     ·
      have NP : Hid (ps ++ [e.p] = pathsE (es.take (k + 1))) := Lib.hid (by rw [NXT.out]; unfold addP; rw [if_neg hin])
      rw [decide_eq_false hin]
      clear hin
      have z2 := (evCells ((EA.out ▸ HA.out).chg PC.out (by simp)) EX.out).2.2.1
      rw [XP.out] at z2
      obtain ⟨v1, hw, cn, bn⟩ := news1 wr (.cells #[.string (strOf e.p)] 9)
      have WN := Lib.hid hw
      have XR : Hid (RdK textTy v1 (some ⟨wr.heap.size, 0, none⟩) 1 [e.p]) := Lib.hid ⟨rfl, fun j v hj => ⟨_, rfl, by rw [add_zero_lit, cell_of bn j]; simpa [RowTy.flat, textTy] using hj⟩⟩
      replace OD := Lib.hid (OD.out.chg cn (by simp))
      replace PC := Lib.hid (PC.out.trans cn)
      have N4 : Hid ((i + 1) * 400 ≤ 140737488355327) := Lib.hid (by have := NL.out; omega)
      clear hw cn bn
      go_wp2_with (at_builtin; rw [← WN.out]; refine wpList_appK (R := textTy) rfl (.tmp 34) (.tmp 40) rfl rfl OD.out PN.out rfl XR.out N4.out ?_; intro A9 c9 w9 o9 g9 e9)
      clear z2 WN XR N4
      have O9 := Lib.hid o9
      have C9 := Lib.hid (PC.out.grown g9 (fun j hj => by
       rcases A1 with _ | a
       ·
        simp at hj
       ·
        simp at hj; subst hj; exact .inr (NA.out _ rfl)))
      have N9 : Hid (∀ a, A9 = some a → w.heap.size ≤ a.block) := Lib.hid (fun a ha => by
       rcases e9 with q | q
       ·
        exact NA.out a (by rw [← q]; exact ha)
       ·
        rw [q] at ha; cases ha; exact PC.out.size)
      have PN9 : Hid ((ps ++ [e.p]).length = i + 1) := Lib.hid (by rw [List.length_append, PN.out]; rfl)
      clear o9 g9 e9; go_wp2; go_round
      case rel => exact ⟨k + 1, i + 1, A9, c9, ps ++ [e.p], by omega, by go_num, by first | rfl | go_num, NP, PN9, O9, N9, C9⟩
      case measure => simp [RowKit.intOf]; omega
  ·
   obtain rfl : k = xs.length := by omega
   have j1 : ¬ (xs.length : Int) < (xs.length : Int) := by omega
   have EF : es.take xs.length = es := by rw [HX.out.1, List.take_length]
   rw [EF] at PS
   have QS := PS.out
   subst QS
   have QN := PN.out
   subst QN; clear EF; go_wp2; go_ret
   first | exact ⟨A1, ⟨d1, rfl⟩, OD.out.reads, PC.out⟩ | exact ⟨A1, d1, rfl, OD.out.reads, PC.out⟩
end
section
open Go.RowKit Go.Lib


def IdxP (es : List EvP) (p : EvP → Bool) (v : Int) : Prop := (v = -1 ∧ ∀ e ∈ es, p e = false) ∨ ∃ (k : Nat) (e : EvP), v = k ∧ es[k]? = some e ∧ p e = true ∧ ∀ e ∈ es.take k, p e = false
theorem IdxP.any {es : List EvP} {p : EvP → Bool} {v : Int} (h : IdxP es p v) : es.any p = decide (0 ≤ v) := by
 rcases h with ⟨rfl, h⟩ | ⟨k, e, rfl, hk, hp, _⟩
 ·
  rw [List.any_eq_false.2 (fun e he => by rw [h e he]; decide)]
  rfl
 ·
  rw [List.any_eq_true.2 ⟨e, List.mem_of_getElem? hk, hp⟩]
  exact (decide_eq_true (by omega)).symm
theorem all_take_no {es : List EvP} {p : EvP → Bool} {k : Nat} {e : EvP} (h : ∀ e ∈ es.take k, p e = false) (hk : es[k]? = some e) (he : p e = false) : ∀ e ∈ es.take (k + 1), p e = false := by
 intro x hx
 rw [List.take_add_one, hk] at hx
 rcases List.mem_append.1 hx with q | q
 ·
  exact h x q
 ·
  simp at q
  subst q
  exact he

set_option maxRecDepth 100000 in
set_option maxHeartbeats 4000000 in
theorem shahead1_any (w : World) (gp : Nat) (x y : EvT) (e f : EvP) (hp : w.heap[gp]? = some (.cells #[.int .i64 y.n, .int .i64 y.s, .string y.p, .int .i64 y.k, .int .i64 y.m, .slice y.A y.l y.c, .slice y.B y.bl y.bc] 30 (0, 0))) (hx : EvR w x e) (hy : EvR w y f) (hs : EvSm e) (ht : EvSm f) :
  Calls Tryz.prog 177 #[.agg #[.int .i64 x.n, .int .i64 x.s, .string x.p, .int .i64 x.k, .int .i64 x.m, .slice x.A x.l x.c, .slice x.B x.bl x.bc], .pointer (some ⟨gp, 0, none⟩)] w fun r w' => r = .returned (.bool (aheadP f e)) ∧ Chg [] w w' := by
 obtain ⟨w1, hw1, c1, b1⟩ := news1 w (.cells #[.int .i64 x.n, .int .i64 x.s, .string x.p, .int .i64 x.k, .int .i64 x.m, .slice x.A x.l x.c, .slice x.B x.bl x.bc] 30)
 have W1 := Lib.hid hw1
 have C1 := Lib.hid c1
 have HX := Lib.hid (hx.chg c1)
 have HY := Lib.hid (hy.chg c1)
 have HS := Lib.hid (And.intro hs ht)
 have p0 := c1.at_ hp (by simp)
 have y0 := cell_of p0 0
 have y1 := cell_of p0 1
 have y2 := cell_of p0 2
 have y3 := cell_of p0 3
 have y4 := cell_of p0 4
 have y5 := cell_of p0 5
 have y6 := cell_of p0 6
 have z0 := cell_of b1 0
 have z1 := cell_of b1 1
 have z2 := cell_of b1 2
 have z3 := cell_of b1 3
 have z4 := cell_of b1 4
 have z5 := cell_of b1 5
 have z6 := cell_of b1 6
 simp only [List.getElem?_toArray, List.getElem?_cons_succ, List.getElem?_cons_zero] at y0 y1 y2 y3 y4 y5 y6 z0 z1 z2 z3 z4 z5 z6
 clear hw1 c1 b1 hp hx hy hs ht p0
 generalize hv : aheadP f e = v at *
 have HV := Lib.hid hv
 clear hv
 go_enter Tryz.func177, Tryz.ntmps177
 go_upto_region 1 with fail
 rw [← W1.out]
 generalize w.heap.size = g1 at *
 clear W1; go_wp2_with fail; clear y0 y1 y2 y3 y4 y5 y6 z0 z1 z2 z3 z4 z5 z6
 refine (evahead_any w1 y x f e HY.out HX.out HS.out.2 HS.out.1).mono ?_
 rintro r w2 ⟨rfl, hc⟩
 rw [HV.out]
 replace C1 := Lib.hid (C1.out.trans hc)
 clear hc; go_wp2; go_ret
 exact ⟨rfl, C1.out⟩

set_option maxRecDepth 100000 in
set_option maxHeartbeats 4000000 in
theorem shindex_any (w : World) (A : Option Addr) (c : Nat) (xs : List EvT) (es : List EvP) (gp : Nat) (y : EvT) (f : EvP) (h : RdK evTy w A xs.length xs) (hx : EvsR w xs es) (hn : xs.length ≤ 100000) (hp : w.heap[gp]? = some (.cells #[.int .i64 y.n, .int .i64 y.s, .string y.p, .int .i64 y.k, .int .i64 y.m, .slice y.A y.l y.c, .slice y.B y.bl y.bc] 30 (0, 0))) (hy : EvR w y f) (hs : ∀ e ∈ es, EvSm e) (ht : EvSm f) :
  Calls Tryz.prog 153 #[.slice A xs.length c, .func (.func 177) #[] #[.pointer (some ⟨gp, 0, none⟩)]] w fun r w' => (∃ v : Int, r = .returned (.int .i64 v) ∧ IdxP es (fun e => aheadP f e) v) ∧ Chg [] w w' := by
 have HA := Lib.hid h
 have HX := Lib.hid hx
 have HN := Lib.hid hn
 have HCALL := Lib.hid (fun (wr : World) (RC : Chg [] w wr) (x : EvT) (e : EvP) (rx : EvR w x e) (he : e ∈ es) => shahead1_any wr gp x y e f (RC.at_ hp (by simp)) (rx.chg RC) (hy.chg RC) (hs e he) ht)
 have CLEARS : True := trivial
 clear CLEARS h hx hn
 go_enter Tryz.func153, Tryz.ntmps153
 go_wp2
 go_loopw [5, 8] (fun v5 v8 wr => ∃ (k : Nat), k ≤ xs.length ∧ v8 = .int .i64 k ∧ Hid (∀ e ∈ es.take k, (fun e => aheadP f e) e = false) ∧ Hid (Chg [] w wr)) (fun _ v8 _ => xs.length - (RowKit.intOf v8).toNat)
 case atStart => exact ⟨0, Nat.zero_le _, rfl, Lib.hid (by simp), Chg.refl _ _⟩
 case round =>
  obtain ⟨k, hk, rfl, FN_, RC⟩ := hrel
  have i0 : (0 : Int) ≤ (k : Int) := by omega
  by_cases hlt : k < xs.length
  ·
   have i1 : (k : Int) < (xs.length : Int) := by omega
   have i3 : IntKind.i64.wrap ((k : Int) + 1) = (k : Int) + 1 := IntWalk.i64_in _ (by have := HN.out; omega)
   obtain ⟨x, e, ex, ee, rx⟩ := HX.out.at_ hlt
   obtain ⟨g, o, eA, _⟩ := HA.out.line (by omega)
   subst eA
   obtain ⟨z0, z1, z2, z3, z4, z5, z6⟩ := evCells (HA.out.chg RC.out (by simp)) ex
   have EE := Lib.hid ee
   have CL := Lib.hid (HCALL.out wr RC.out x e rx (List.mem_of_getElem? ee))
   clear ex ee rx; go_wp2_with fail
   refine CL.out.mono ?_
   rintro r w2 ⟨rfl, hc⟩
   have C2 := Lib.hid (RC.out.trans hc)
   clear hc CL z0 z1 z2 z3 z4 z5 z6
   rcases hb : (fun e => aheadP f e) e with _ | _
   ·
    have FN1 := Lib.hid (all_take_no FN_.out EE.out hb)
    dsimp only at hb
    rw [hb]
    clear hb FN_; go_wp2; go_round
    case rel => exact ⟨k + 1, by omega, by go_num, FN1, C2⟩
    case measure => simp [RowKit.intOf]; omega
   ·
    have AN : Hid (IdxP es (fun e => aheadP f e) (k : Int)) := Lib.hid (.inr ⟨k, e, rfl, EE.out, hb, FN_.out⟩)
    dsimp only at hb
    rw [hb]
    clear hb FN_; go_wp2; go_ret
    exact ⟨⟨k, rfl, AN.out⟩, C2.out⟩
  ·
   obtain rfl : k = xs.length := by omega
   have ET : es.take xs.length = es := by rw [HX.out.1]; exact List.take_length
   rw [ET] at FN_
   clear ET
   have i1 : ¬ (xs.length : Int) < (xs.length : Int) := by omega
   go_wp2; go_ret
   exact ⟨⟨-1, rfl, .inl ⟨rfl, FN_.out⟩⟩, RC.out⟩

set_option maxRecDepth 100000 in
set_option maxHeartbeats 4000000 in
theorem shcontains_any (w : World) (A : Option Addr) (c : Nat) (xs : List EvT) (es : List EvP) (gp : Nat) (y : EvT) (f : EvP) (h : RdK evTy w A xs.length xs) (hx : EvsR w xs es) (hn : xs.length ≤ 100000) (hp : w.heap[gp]? = some (.cells #[.int .i64 y.n, .int .i64 y.s, .string y.p, .int .i64 y.k, .int .i64 y.m, .slice y.A y.l y.c, .slice y.B y.bl y.bc] 30 (0, 0))) (hy : EvR w y f) (hs : ∀ e ∈ es, EvSm e) (ht : EvSm f) :
  Calls Tryz.prog 83 #[.slice A xs.length c, .func (.func 177) #[] #[.pointer (some ⟨gp, 0, none⟩)]] w fun r w' => r = .returned (.bool (es.any (fun e => aheadP f e))) ∧ Chg [] w w' := by
 have IX := Lib.hid (shindex_any w A c xs es gp y f h hx hn hp hy hs ht)
 clear h hx hn
 generalize hv : es.any (fun e => aheadP f e) = v
 have HV := Lib.hid hv
 clear hv
 go_enter Tryz.func83, Tryz.ntmps83
 go_wp2_with fail
 refine IX.out.mono ?_
 rintro e w2 ⟨⟨u, rfl, hu⟩, hc⟩
 have C := Lib.hid hc
 have HU : Hid (decide ((0 : Int) ≤ u) = v) := Lib.hid (by rw [← HV.out]; exact hu.any.symm)
 clear hu hc; go_wp2; go_ret
 exact ⟨by rw [HU.out]; rfl, C.out⟩

set_option maxRecDepth 100000 in
set_option maxHeartbeats 4000000 in
theorem shahead_any (w : World) (A : Option Addr) (c : Nat) (xs : List EvT) (es : List EvP) (y : EvT) (f : EvP) (h : RdK evTy w A xs.length xs) (hx : EvsR w xs es) (hn : xs.length ≤ 100000) (hy : EvR w y f) (hs : ∀ e ∈ es, EvSm e) (ht : EvSm f) :
  Calls Tryz.prog 117 #[.agg #[.int .i64 y.n, .int .i64 y.s, .string y.p, .int .i64 y.k, .int .i64 y.m, .slice y.A y.l y.c, .slice y.B y.bl y.bc], .slice A xs.length c] w fun r w' => r = .returned (.bool (es.any (fun e => aheadP f e))) ∧ Chg [] w w' := by
 obtain ⟨w1, hw1, c1, b1⟩ := news1 w (.cells #[.int .i64 y.n, .int .i64 y.s, .string y.p, .int .i64 y.k, .int .i64 y.m, .slice y.A y.l y.c, .slice y.B y.bl y.bc] 30)
 have W1 := Lib.hid hw1
 have C1 := Lib.hid c1
 have CC := Lib.hid (shcontains_any w1 A c xs es w.heap.size y f (h.chg c1 (by simp)) (hx.chg c1) hn b1 (hy.chg c1) hs ht)
 clear hw1 c1 b1 h hx hn hy hs ht
 generalize hv : es.any (fun e => aheadP f e) = v at *
 go_enter Tryz.func117, Tryz.ntmps117
 go_upto_region 1 with fail
 rw [← W1.out]
 generalize w.heap.size = g1 at *
 clear W1 hv; go_wp2_with fail
 refine CC.out.mono ?_
 rintro r w2 ⟨rfl, hc⟩
 replace C1 := Lib.hid (C1.out.trans hc)
 clear hc CC; go_wp2; go_ret
 exact ⟨rfl, C1.out⟩
end
section
open Go.RowKit Go.Lib


set_option maxRecDepth 100000 in
set_option maxHeartbeats 4000000 in
theorem shwithout1_any (w : World) (gq : Nat) (T : TypeId) (gp : Nat) (x y : EvT) (e f : EvP) (hq : w.heap[gq]? = some (.cells #[.func (.func 40) #[] #[]] T (0, 0))) (hp : w.heap[gp]? = some (.cells #[.int .i64 y.n, .int .i64 y.s, .string y.p, .int .i64 y.k, .int .i64 y.m, .slice y.A y.l y.c, .slice y.B y.bl y.bc] 30 (0, 0))) (hx : EvR w x e) (hy : EvR w y f) (hs : EvSm e) (ht : EvSm f) :
  Calls Tryz.prog 218 #[.agg #[.int .i64 x.n, .int .i64 x.s, .string x.p, .int .i64 x.k, .int .i64 x.m, .slice x.A x.l x.c, .slice x.B x.bl x.bc], .pointer (some ⟨gq, 0, none⟩), .pointer (some ⟨gp, 0, none⟩)] w fun r w' => r = .returned (.bool (aheadP e f)) ∧ Chg [] w w' := by
 obtain ⟨w1, hw1, c1, b1⟩ := news1 w (.cells #[.int .i64 x.n, .int .i64 x.s, .string x.p, .int .i64 x.k, .int .i64 x.m, .slice x.A x.l x.c, .slice x.B x.bl x.bc] 30)
 have W1 := Lib.hid hw1
 have C1 := Lib.hid c1
 have CC := Lib.hid (evahead_any w1 x y e f (hx.chg c1) (hy.chg c1) hs ht)
 have p0 := c1.at_ hp (by simp)
 have p1 := c1.at_ hq (by simp)
 have y0 := cell_of p0 0
 have y1 := cell_of p0 1
 have y2 := cell_of p0 2
 have y3 := cell_of p0 3
 have y4 := cell_of p0 4
 have y5 := cell_of p0 5
 have y6 := cell_of p0 6
 have z0 := cell_of b1 0
 have z1 := cell_of b1 1
 have z2 := cell_of b1 2
 have z3 := cell_of b1 3
 have z4 := cell_of b1 4
 have z5 := cell_of b1 5
 have z6 := cell_of b1 6
 have u0 := cell_of p1 0
 simp only [List.getElem?_toArray, List.getElem?_cons_succ, List.getElem?_cons_zero] at y0 y1 y2 y3 y4 y5 y6 z0 z1 z2 z3 z4 z5 z6 u0
 clear hw1 c1 b1 hp hq hx hy hs ht p0 p1
 generalize aheadP e f = v at *
 go_enter Tryz.func218, Tryz.ntmps218
 go_upto_region 1 with fail
 rw [← W1.out]
 generalize w.heap.size = g1 at *
 clear W1; go_wp2_with fail; clear y0 y1 y2 y3 y4 y5 y6 z0 z1 z2 z3 z4 z5 z6 u0
 refine CC.out.mono ?_
 rintro r w2 ⟨rfl, hc⟩
 replace C1 := Lib.hid (C1.out.trans hc)
 clear hc CC; go_wp2; go_ret
 exact ⟨rfl, C1.out⟩

set_option maxRecDepth 100000 in
set_option maxHeartbeats 4000000 in
theorem shindexw_any (w : World) (A : Option Addr) (c : Nat) (xs : List EvT) (es : List EvP) (gq : Nat) (T : TypeId) (gp : Nat) (y : EvT) (f : EvP) (h : RdK evTy w A xs.length xs) (hx : EvsR w xs es) (hn : xs.length ≤ 100000) (hq : w.heap[gq]? = some (.cells #[.func (.func 40) #[] #[]] T (0, 0))) (hp : w.heap[gp]? = some (.cells #[.int .i64 y.n, .int .i64 y.s, .string y.p, .int .i64 y.k, .int .i64 y.m, .slice y.A y.l y.c, .slice y.B y.bl y.bc] 30 (0, 0))) (hy : EvR w y f) (hs : ∀ e ∈ es, EvSm e) (ht : EvSm f) :
  Calls Tryz.prog 153 #[.slice A xs.length c, .func (.func 218) #[] #[.pointer (some ⟨gq, 0, none⟩), .pointer (some ⟨gp, 0, none⟩)]] w fun r w' => (∃ v : Int, r = .returned (.int .i64 v) ∧ IdxP es (fun e => aheadP e f) v) ∧ Chg [] w w' := by
 have HA := Lib.hid h
 have HX := Lib.hid hx
 have HN := Lib.hid hn
 have HCALL := Lib.hid (fun (wr : World) (RC : Chg [] w wr) (x : EvT) (e : EvP) (rx : EvR w x e) (he : e ∈ es) => shwithout1_any wr gq T gp x y e f (RC.at_ hq (by simp)) (RC.at_ hp (by simp)) (rx.chg RC) (hy.chg RC) (hs e he) ht)
 have CLEARS : True := trivial
 clear CLEARS h hx hn
 go_enter Tryz.func153, Tryz.ntmps153
 go_wp2
 go_loopw [5, 8] (fun v5 v8 wr => ∃ (k : Nat), k ≤ xs.length ∧ v8 = .int .i64 k ∧ Hid (∀ e ∈ es.take k, (fun e => aheadP e f) e = false) ∧ Hid (Chg [] w wr)) (fun _ v8 _ => xs.length - (RowKit.intOf v8).toNat)
 case atStart => exact ⟨0, Nat.zero_le _, rfl, Lib.hid (by simp), Chg.refl _ _⟩
 case round =>
  obtain ⟨k, hk, rfl, FN_, RC⟩ := hrel
  have i0 : (0 : Int) ≤ (k : Int) := by omega
  by_cases hlt : k < xs.length
  ·
   have i1 : (k : Int) < (xs.length : Int) := by omega
   have i3 : IntKind.i64.wrap ((k : Int) + 1) = (k : Int) + 1 := IntWalk.i64_in _ (by have := HN.out; omega)
   obtain ⟨x, e, ex, ee, rx⟩ := HX.out.at_ hlt
   obtain ⟨g, o, eA, _⟩ := HA.out.line (by omega)
   subst eA
   obtain ⟨z0, z1, z2, z3, z4, z5, z6⟩ := evCells (HA.out.chg RC.out (by simp)) ex
   have EE := Lib.hid ee
   have CL := Lib.hid (HCALL.out wr RC.out x e rx (List.mem_of_getElem? ee))
   clear ex ee rx; go_wp2_with fail
   refine CL.out.mono ?_
   rintro r w2 ⟨rfl, hc⟩
   have C2 := Lib.hid (RC.out.trans hc)
   clear hc CL z0 z1 z2 z3 z4 z5 z6
   rcases hb : (fun e => aheadP e f) e with _ | _
   ·
    have FN1 := Lib.hid (all_take_no FN_.out EE.out hb)
    dsimp only at hb
    rw [hb]
    clear hb FN_; go_wp2; go_round
    case rel => exact ⟨k + 1, by omega, by go_num, FN1, C2⟩
    case measure => simp [RowKit.intOf]; omega
   ·
    have AN : Hid (IdxP es (fun e => aheadP e f) (k : Int)) := Lib.hid (.inr ⟨k, e, rfl, EE.out, hb, FN_.out⟩)
    dsimp only at hb
    rw [hb]
    clear hb FN_; go_wp2; go_ret
    exact ⟨⟨k, rfl, AN.out⟩, C2.out⟩
  ·
   obtain rfl : k = xs.length := by omega
   have ET : es.take xs.length = es := by rw [HX.out.1]; exact List.take_length
   rw [ET] at FN_
   clear ET
   have i1 : ¬ (xs.length : Int) < (xs.length : Int) := by omega
   go_wp2; go_ret
   exact ⟨⟨-1, rfl, .inl ⟨rfl, FN_.out⟩⟩, RC.out⟩
end
end Go.Proofs.YtomgjogkkoigbaaGreatDoor
