/- The document's without. Sets of dots as lists of spans: how many dots they have, what is the last one, what is joined, left, within. Plain. What is joined of spans in order: purely. Which past events make, and whether they are closed: purely. A row that the library has sorted, or cleared from some place on. slices.SortFunc at structs under a 'cmp' that need not part any two: what was there, in order. Events by their dots. Events in order, by their dots: purely. An event is looked for by its dot. past.push, whatever comes. past: a cursor goes on. past.begin. -/
import Derived.Test.YtfdaclifapfmdaaGreatDoorZcbb
import Derived.Deep.Cut
import Derived.Test.YtfdaclifapfmdaaGreatDoorZcag
import Derived.Test.YtfdaclifapfmdaaGreatDoorZcba
import Derived.Test.YtfdaclifapfmdaaGreatDoorZcaf
import Derived.Test.YtfdaclifapfmdaaGreatDoorZcaa
import Derived.Shelf.SlSortCmp.NoneTotal
import Derived.Lib.SlicesCompact
import Derived.Lib.SliceRun
import Derived.Test.YtfdaclifapfmdaaGreatDoorZcal
import Derived.Test.YtfdaclifapfmdaaGreatDoorZcab
import Derived.Deep.RegionHeld3
import Derived.Test.YtfdaclifapfmdaaGreatDoorZcad
namespace Go.Proofs.YtfdaclifapfmdaaGreatDoor
section
open Go.RowKit Go.Lib
set_option linter.unusedSimpArgs false
set_option linter.unusedVariables false
end
section
set_option linter.unusedSimpArgs false
set_option linter.unusedVariables false

theorem lastM_from (node : Int) : ∀ (xs : List Sp) (k : Int), k ≤ xs.foldl (fun n x => if x.1 = node then max n x.2.2 else n) k ∧ ∀ x ∈ xs, x.1 = node → x.2.2 ≤ xs.foldl (fun n x => if x.1 = node then max n x.2.2 else n) k
  | [], k => ⟨Int.le_refl _, by simp⟩
  | x :: xs, k => by
    obtain ⟨h1, h2⟩ := lastM_from node xs (if x.1 = node then max k x.2.2 else k)
    rw [List.foldl_cons]
    by_cases q : x.1 = node
    · rw [if_pos q] at h1 h2 ⊢
      refine ⟨by omega, fun y hy e => ?_⟩
      rcases List.mem_cons.1 hy with rfl | hy
      · omega
      · exact h2 y hy e
    · rw [if_neg q] at h1 h2 ⊢
      refine ⟨by omega, fun y hy e => ?_⟩
      rcases List.mem_cons.1 hy with rfl | hy
      · exact absurd e q
      · exact h2 y hy e
theorem last_ge {xs : List Sp} (h : WfC xs) {n s : Int} (hm : Mem xs n s) : s ≤ lastL n xs := by
  rw [← last_all n h]
  obtain ⟨x, hx, e, _, l⟩ := hm
  exact Int.le_trans l ((lastM_from n xs 0).2 x hx e)
theorem wf_mem {xs : List Sp} (h : WfC xs) {n s : Int} (hm : Mem xs n s) : 1 ≤ n ∧ n ≤ 200 ∧ 1 ≤ s ∧ s ≤ 2147483647 := by
  obtain ⟨x, hx, e, l, r⟩ := hm
  have := h.2 x hx
  omega
theorem wf_sub {m : List Sp} (h : Norm m) (hb : ∀ n s, Mem m n s → 1 ≤ n ∧ n ≤ 200 ∧ 1 ≤ s ∧ s ≤ 2147483647) : WfC m :=
  ⟨h, fun x hx => by
    have o := h.1 x hx
    unfold SpOk at o
    have a := hb x.1 x.2.1 ⟨x, hx, rfl, Int.le_refl _, o⟩
    have b := hb x.1 x.2.2 ⟨x, hx, rfl, o, Int.le_refl _⟩
    omega⟩
theorem push_len (out : List Sp) (z : Sp) : (pushP out z).length ≤ out.length + 1 := by
  unfold pushP
  split <;> (try split) <;> simp <;> omega
theorem fold_len : ∀ (zs out : List Sp), (zs.foldl pushP out).length ≤ out.length + zs.length
  | [], out => by simp
  | z :: zs, out => by
    have h1 := fold_len zs (pushP out z)
    have h2 := push_len out z
    rw [List.foldl_cons, List.length_cons]
    omega
theorem tidy_len (l : List Sp) : (tidyS l).length ≤ l.length := by
  have := fold_len (riseS l) []
  rw [(rise_props l).2.2] at this
  simpa [tidyS] using this
theorem bound_le {l : List Sp} (h : l.length ≤ 4000) : boundP l = (0, l) := by unfold boundP; rw [if_neg (by omega)]
/-- What is joined of two short pasts. -/
theorem join_ok {a b : List Sp} (ha : chkS a = 0) (hb : chkS b = 0) (hl : a.length + b.length ≤ 4000) : joinE a b = (0, tidyS (a ++ b)) ∧ chkS (tidyS (a ++ b)) = 0 ∧ (tidyS (a ++ b)).length ≤ a.length + b.length ∧ ∀ n s, Mem (tidyS (a ++ b)) n s ↔ Mem a n s ∨ Mem b n s := by
  have wa := (wf_of_chk ha).1
  have wb := (wf_of_chk hb).1
  have t := tidy_norm (l := a ++ b) (fun x hx => by
    rcases List.mem_append.1 hx with q | q
    · exact wa.1.1 x q
    · exact wb.1.1 x q)
  have tl := tidy_len (a ++ b)
  rw [List.length_append] at tl
  have tm : ∀ n s, Mem (tidyS (a ++ b)) n s ↔ Mem a n s ∨ Mem b n s := fun n s => (t.2 n s).trans mem_append
  have wt : WfC (tidyS (a ++ b)) := wf_sub t.1 (fun n s h => by
    rcases (tm n s).1 h with q | q
    · exact wf_mem wa q
    · exact wf_mem wb q)
  refine ⟨?_, chk_of_wf wt (by omega), tl, tm⟩
  unfold joinE
  rw [if_pos ⟨ha, hb⟩, bound_le (by omega)]
theorem has_iff {xs : List Sp} (h : chkS xs = 0) (n s : Int) : hasE xs n s = decide (Mem xs n s) := by
  unfold hasE
  rw [decide_eq_true h, Bool.true_and]
theorem wf_B3 {xs : List Sp} (h : WfC xs) : ∀ x ∈ xs, B3 x := fin_of h
end
section
open Go.RowKit Go.Lib
set_option linter.unusedSimpArgs false
set_option linter.unusedVariables false

theorem B3.ok {x : Sp} (h : B3 x) : SpOk x := by unfold B3 at h; unfold SpOk; omega
/-- What was put in order, and then joined, is what is tidied. -/
theorem join_sorted {l m : List Sp} (hp : m.Perm l) (hs : m.Pairwise Le) (hb : ∀ x ∈ l, SpOk x) : m.foldl pushP [] = tidyS l := by
  have a := fold_norm (zs := m) norm_nil (fun x hx => hb x (hp.mem_iff.1 hx)) hs (by simp)
  have b := tidy_norm hb
  exact norm_ext a.1 b.1 (fun n s => by
    rw [a.2, b.2, mem_same (l := m) (m := l) (fun y => hp.mem_iff)]
    exact ⟨fun q => q.elim (fun q => absurd q mem_nil) id, .inr⟩)
theorem sorted_last {ms : List Sp} (hs : ms.Pairwise Le) (hb : ∀ x ∈ ms, SpOk x) {k : Nat} {x : Sp} (hx : ms[k]? = some x) : ∀ y, ((ms.take k).foldl pushP []).getLast? = some y → Le y x := by
  have hk := (List.getElem?_eq_some_iff.1 hx).1
  refine fold_last _ [] x norm_nil (fun z hz => hb z (List.mem_of_mem_take hz)) (hs.sublist (List.take_sublist _ _)) (fun z hz => ?_) (by simp) (by simp)
  obtain ⟨q, hq, rfl⟩ := List.getElem_of_mem hz
  rw [List.length_take] at hq
  rw [List.getElem_take]
  have h1 := List.pairwise_iff_getElem.1 hs q k (by omega) hk (by omega)
  rw [List.getElem?_eq_getElem hk] at hx
  cases hx
  exact h1
end
section
open Go.RowKit Go.Lib
set_option linter.unusedSimpArgs false
set_option linter.unusedVariables false

def ownS (e : EvP) : Sp := (e.n, e.s, e.s)
/-- The dots and the pasts of them all. -/
def allsE (es : List EvP) : List Sp := es.flatMap (fun e => ownS e :: e.q)
def okAll (es : List EvP) : Bool := es.all (fun e => decide (chkEv e = 0))
def pastE (es : List EvP) : Int × List Sp := if okAll es = true then boundP (tidyS (allsE es)) else (2, [])
theorem okAll_iff {es : List EvP} : okAll es = true ↔ ∀ e ∈ es, chkEv e = 0 := by
  unfold okAll
  rw [List.all_eq_true]
  exact ⟨fun h e he => of_decide_eq_true (h e he), fun h e he => decide_eq_true (h e he)⟩
theorem chk_fine {e : EvP} (h : chkEv e = 0) : chkS e.q = 0 ∧ B3 (ownS e) ∧ lastL e.n e.q < e.s := by
  have o : EvOk e := by
    unfold chkEv at h
    split at h
    · assumption
    · exact absurd h (by decide)
  obtain ⟨o0, _, _, o3, o4⟩ := o
  have d : FineD e.n e.s := by
    by_cases f : FineD e.n e.s
    · exact f
    · have := chkD_odd f
      rw [show chkD e.n e.s = 0 from o0] at this
      exact absurd this (by decide)
  have q : chkS e.q = 0 := o3
  refine ⟨q, ?_, ?_⟩
  · unfold FineD at d
    unfold B3 ownS
    simp only
    omega
  · have := o4
    unfold evOk at this
    simp only [q, if_true] at this
    exact this
theorem chk_len {e : EvP} (h : chkEv e = 0) : e.q.length ≤ 4000 := (wf_of_chk (chk_fine h).1).2
theorem alls_B3 {es : List EvP} (h : okAll es = true) : ∀ x ∈ allsE es, B3 x := by
  intro x hx
  obtain ⟨e, he, hm⟩ := List.mem_flatMap.1 hx
  have c := chk_fine (okAll_iff.1 h e he)
  rcases List.mem_cons.1 hm with r | r
  · rw [r]; exact c.2.1
  · exact wf_B3 (wf_of_chk c.1).1 x r
theorem alls_snoc (es : List EvP) (e : EvP) : allsE (es ++ [e]) = allsE es ++ ownS e :: e.q := by simp [allsE]
theorem alls_take {es : List EvP} {k : Nat} {e : EvP} (h : es[k]? = some e) : allsE (es.take (k + 1)) = allsE (es.take k) ++ ownS e :: e.q := by
  rw [List.take_add_one, h]
  exact alls_snoc _ _
theorem okAll_take {es : List EvP} {k : Nat} {e : EvP} (h : es[k]? = some e) : okAll (es.take (k + 1)) = (okAll (es.take k) && decide (chkEv e = 0)) := by
  rw [List.take_add_one, h]
  simp [okAll]
theorem okAll_no {es : List EvP} {k : Nat} {e : EvP} (h : es[k]? = some e) (hc : chkEv e ≠ 0) : okAll es = false := by
  rcases q : okAll es with _ | _
  · rfl
  · exact absurd (okAll_iff.1 q e (List.mem_of_getElem? h)) hc
/-- Two events of closed ones. -/
def OkTwo (a b : EvP) : Prop := ¬ (a.n = b.n ∧ a.s = b.s) ∧ (aheadP a b = true → withinE a.q b.q = true) ∧ (aheadP b a = true → withinE b.q a.q = true)
instance (a b : EvP) : Decidable (OkTwo a b) := by unfold OkTwo; exact inferInstance
theorem OkTwo.symm {a b : EvP} (h : OkTwo a b) : OkTwo b a := ⟨fun q => h.1 ⟨q.1.symm, q.2.symm⟩, h.2.2, h.2.1⟩
/-- Do these bring along all that is ahead of them? -/
def closedE (es : List EvP) : Bool := okAll es && decide (es.Pairwise OkTwo)
/-- One way of two. -/
def OneWay (a b : EvP) : Prop := ¬ (a.n = b.n ∧ a.s = b.s) ∧ (aheadP a b = true → withinE a.q b.q = true)
theorem pair_at {es : List EvP} : es.Pairwise OkTwo ↔ ∀ (i k : Nat) (a b : EvP), es[i]? = some a → es[k]? = some b → k ≠ i → OneWay a b := by
  rw [List.pairwise_iff_getElem]
  constructor
  · intro h i k a b ha hb hne
    obtain ⟨hi, ea⟩ := List.getElem?_eq_some_iff.1 ha
    obtain ⟨hk, eb⟩ := List.getElem?_eq_some_iff.1 hb
    subst ea eb
    by_cases q : i < k
    · have := h i k hi hk q
      exact ⟨this.1, this.2.1⟩
    · have := (h k i hk hi (by omega)).symm
      exact ⟨this.1, this.2.1⟩
  · intro h i k hi hk q
    have a := h i k _ _ (List.getElem?_eq_getElem hi) (List.getElem?_eq_getElem hk) (by omega)
    have b := h k i _ _ (List.getElem?_eq_getElem hk) (List.getElem?_eq_getElem hi) (by omega)
    exact ⟨a.1, a.2, b.2⟩
theorem closed_no_chk {es : List EvP} {k : Nat} {e : EvP} (h : es[k]? = some e) (hc : chkEv e ≠ 0) : closedE es = false := by
  unfold closedE
  rw [okAll_no h hc]
  rfl
theorem closed_no_two {es : List EvP} {i k : Nat} {a b : EvP} (ha : es[i]? = some a) (hb : es[k]? = some b) (hne : k ≠ i) (hc : ¬ OneWay a b) : closedE es = false := by
  unfold closedE
  rw [decide_eq_false (fun q => hc (pair_at.1 q i k a b ha hb hne)), Bool.and_false]
theorem closed_perm {es fs : List EvP} (h : es.Perm fs) : closedE es = closedE fs := by
  have h1 : okAll es = okAll fs := by
    have : okAll es = true ↔ okAll fs = true := by
      rw [okAll_iff, okAll_iff]
      exact ⟨fun q e he => q e (h.mem_iff.2 he), fun q e he => q e (h.mem_iff.1 he)⟩
    rcases a : okAll es with _ | _ <;> rcases b : okAll fs with _ | _ <;> simp_all
  have h2 : es.Pairwise OkTwo ↔ fs.Pairwise OkTwo := h.pairwise_iff (fun {a b} q => q.symm)
  unfold closedE
  rw [h1, decide_eq_decide.2 h2]
/-- Is all that is ahead of it within its past? -/
def bringsE (m : List EvP) (e : EvP) : Bool := e.q.all (fun s => m.all (fun x => !(decide (InS s x.n x.s)) || withinE x.q e.q))
theorem brings_iff {m : List EvP} {e : EvP} : bringsE m e = true ↔ ∀ x ∈ m, Mem e.q x.n x.s → withinE x.q e.q = true := by
  unfold bringsE
  rw [List.all_eq_true]
  constructor
  · rintro h x hx ⟨s, hs, hi⟩
    have := List.all_eq_true.1 (h s hs) x hx
    rw [decide_eq_true hi] at this
    simpa using this
  · intro h s hs
    rw [List.all_eq_true]
    intro x hx
    by_cases hi : InS s x.n x.s
    · rw [h x hx ⟨s, hs, hi⟩, Bool.or_true]
    · rw [decide_eq_false hi]
      rfl
/-- An event's own dot is not of its past. -/
theorem own_out {e : EvP} (h : chkEv e = 0) : ¬ Mem e.q e.n e.s := by
  intro q
  have c := chk_fine h
  have := last_ge (wf_of_chk c.1).1 q
  omega
/-- Of events that are in order, each of which may be: what the program asks is what the document asks. -/
theorem closed_brings {m : List EvP} (h : okAll m = true) (hd : m.Pairwise (fun a b => ¬ (a.n = b.n ∧ a.s = b.s))) : closedE m = m.all (fun e => bringsE m e) := by
  have ok := okAll_iff.1 h
  have key : closedE m = true ↔ m.all (fun e => bringsE m e) = true := by
    unfold closedE
    rw [h, Bool.true_and, decide_eq_true_iff, List.all_eq_true]
    constructor
    · intro hp e he
      refine brings_iff.2 (fun x hx hm => ?_)
      obtain ⟨i, hi⟩ := List.getElem?_of_mem hx
      obtain ⟨k, hk⟩ := List.getElem?_of_mem he
      by_cases q : k = i
      · subst q
        rw [hi] at hk
        cases hk
        exact absurd hm (own_out (ok _ hx))
      · refine (pair_at.1 hp i k x e hi hk q).2 ?_
        unfold aheadP
        rw [has_iff (chk_fine (ok e he)).1, decide_eq_true hm, decide_eq_true (ok x hx), decide_eq_true (ok e he)]
        rfl
    · intro hb
      have two : ∀ a ∈ m, ∀ b ∈ m, aheadP a b = true → withinE a.q b.q = true := fun a ha b hb' q => by
        unfold aheadP at q
        simp only [Bool.and_eq_true, decide_eq_true_eq] at q
        rw [has_iff (chk_fine (ok b hb')).1] at q
        exact brings_iff.1 (hb b hb') a ha (of_decide_eq_true q.1.1)
      refine hd.imp_of_mem (fun {a b} ha hb' q => ⟨q, two a ha b hb', two b hb' a ha⟩)
  rcases a : closedE m with _ | _ <;> rcases b : m.all (fun e => bringsE m e) with _ | _
  · rfl
  · rw [key.2 b] at a; exact absurd a (by decide)
  · rw [key.1 a] at b; exact absurd b (by decide)
  · rfl
theorem perm_zip {α β : Type} {m xs : List α} (h : m.Perm xs) : ∀ es : List β, es.length = xs.length → ∃ es' : List β, es'.length = m.length ∧ (m.zip es').Perm (xs.zip es) := by
  induction h with
  | nil => intro es _; exact ⟨[], rfl, by simp⟩
  | cons x h ih =>
    intro es he
    match es, he with
    | e :: es, he =>
      obtain ⟨f, hf, hp⟩ := ih es (by simpa using he)
      exact ⟨e :: f, by simp [hf], by simpa using hp.cons (x, e)⟩
  | swap x y l =>
    intro es he
    match es, he with
    | a :: b :: es, he => exact ⟨b :: a :: es, by simp at he ⊢; omega, by simpa using List.Perm.swap (x, a) (y, b) (l.zip es)⟩
  | trans h1 h2 i1 i2 =>
    intro es he
    obtain ⟨f, hf, hp⟩ := i2 es he
    obtain ⟨g, hg, hq⟩ := i1 f hf
    exact ⟨g, hg, hq.trans hp⟩
end
section
open Go.RowKit Go.Sort
set_option linter.unusedSimpArgs false
set_option linter.unusedVariables false
section
variable {α : Type} [Inhabited α] {R : RowTy α}

theorem flatK_flat (d : Array α) : (flatK R.enc R.k d).toList = R.flat d.toList := by
  refine R.flat_ext _ _ (by simp) ?_
  intro q i x hx hi
  rw [Array.getElem?_toList] at hx ⊢
  have hq : q < d.size := (Array.getElem?_eq_some_iff.1 hx).1
  have hlt : q * R.k + i < d.size * R.k := by
    have := Nat.mul_le_mul_right R.k (show q + 1 ≤ d.size by omega)
    rw [Nat.succ_mul] at this
    omega
  have e := get_flatK R.enc R.k d (q * R.k + i) hlt
  have h1 : (q * R.k + i) / R.k = q := by
    rw [Nat.add_comm, Nat.add_mul_div_right _ _ R.kpos, Nat.div_eq_of_lt hi, Nat.zero_add]
  have h2 : (q * R.k + i) % R.k = i := by rw [Nat.add_comm, Nat.add_mul_mod_self_right, Nat.mod_eq_of_lt hi]
  rw [h1, h2] at e
  have hd : d[q]! = x := by
    rw [getElem!_pos d q hq]
    rw [Array.getElem?_eq_getElem hq] at hx
    exact Option.some.inj hx
  rw [hd] at e
  have hs : q * R.k + i < (flatK R.enc R.k d).size := by simpa using hlt
  rw [getElem!_pos (flatK R.enc R.k d) _ hs] at e
  have hi2 : i < (R.enc x).length := by rw [R.klen]; exact hi
  rw [getElem!_pos (R.enc x) _ hi2] at e
  rw [Array.getElem?_eq_getElem hs, List.getElem?_eq_getElem hi2, e]
theorem OwnK.holds {w : World} {g c : Nat} {xs : List α} (h : OwnK R w (some ⟨g, 0, none⟩) c xs) : HoldsK R.enc R.k w g 0 xs.toArray := by
  rcases h with ⟨h, _⟩ | ⟨g', full, h, hg, hl, _, hn, ht⟩
  · cases h
  · cases h
    intro j hj
    refine ⟨?_, free_of hg _⟩
    rw [Nat.zero_add, cell_of hg]
    have hs : j < (flatK R.enc R.k xs.toArray).size := hj
    rw [getElem!_pos (flatK R.enc R.k xs.toArray) _ hs]
    have e := flatK_flat (R := R) xs.toArray
    simp only at e
    have e2 : (flatK R.enc R.k xs.toArray)[j]? = (R.flat xs)[j]? := by rw [← Array.getElem?_toList, e]
    rw [Array.getElem?_eq_getElem hs] at e2
    have e3 : (R.flat full)[j]? = (R.flat xs)[j]? := by
      have hj2 : j < xs.length * R.k := by simpa using hj
      conv => rhs; rw [← ht, R.flat_take, List.getElem?_take, if_pos hj2]
    show (R.flat full).toArray[j]? = some (id _)
    rw [List.getElem?_toArray, e3, ← e2]
    rfl
theorem putCells_flat (xs ys full : List α) (hl : ys.length = xs.length) (hf : full.take xs.length = xs) (hn : xs.length ≤ full.length) :
    (putCells id 0 (flatK R.enc R.k ys.toArray) (R.flat full).toArray) = (R.flat (ys ++ full.drop xs.length)).toArray := by
  apply Array.toList_inj.1
  apply List.ext_getElem?
  intro p
  have hsz : (flatK R.enc R.k ys.toArray).size = xs.length * R.k := by simp [hl]
  rw [show (R.flat (ys ++ full.drop xs.length)).toArray.toList = R.flat (ys ++ full.drop xs.length) by simp, R.flat_app, R.flat_drop]
  rw [Array.getElem?_toList]
  unfold putCells
  rw [Array.getElem?_mapIdx, List.getElem?_toArray]
  by_cases hp : p < xs.length * R.k
  · have hs : p < (flatK R.enc R.k ys.toArray).size := by omega
    have hp2 : p < (R.flat full).length := by rw [R.flat_len]; exact Nat.lt_of_lt_of_le hp (Nat.mul_le_mul_right _ hn)
    rw [List.getElem?_append_left (by rw [R.flat_len, hl]; exact hp), List.getElem?_eq_getElem hp2]
    simp only [Option.map_some, Nat.zero_le, true_and, Nat.zero_add]
    rw [if_pos hs, Nat.sub_zero, getElem!_pos (flatK R.enc R.k ys.toArray) _ hs]
    have e := flatK_flat (R := R) ys.toArray
    have e2 : (flatK R.enc R.k ys.toArray)[p]? = (R.flat ys)[p]? := by rw [← Array.getElem?_toList, e]
    rw [← e2, Array.getElem?_eq_getElem hs]
    rfl
  · rw [List.getElem?_append_right (by rw [R.flat_len, hl]; omega), R.flat_len, hl, List.getElem?_drop, show xs.length * R.k + (p - xs.length * R.k) = p by omega]
    cases (R.flat full)[p]? with
    | none => rfl
    | some v =>
      simp only [Option.map_some]
      rw [if_neg (by rw [hsz]; omega)]
theorem OwnK.sorted {w : World} {g c : Nat} {xs ys : List α} (h : OwnK R w (some ⟨g, 0, none⟩) c xs) (hl : ys.length = xs.length) (n : Nat) (os : Array Obj) :
    OwnK R (sortWorldK R.enc R.k w g 0 n ys.toArray os) (some ⟨g, 0, none⟩) c ys ∧ Chg [g] w (sortWorldK R.enc R.k w g 0 n ys.toArray os) := by
  rcases h with ⟨h, _⟩ | ⟨g', full, h, hg, hfl, hm, hn, ht⟩
  · cases h
  · cases h
    have hsz : (sortWorldK R.enc R.k w g 0 n ys.toArray os).heap = (w.heap.modify g (onCells (putCells id 0 (flatK R.enc R.k ys.toArray)))) ++ os := rfl
    have hgl := lt_of_heap hg
    refine ⟨.inr ⟨g, ys ++ full.drop xs.length, rfl, ?_, by simp; omega, hm, by omega, ?_⟩, ⟨rfl, rfl, rfl, by rw [hsz]; simp, fun i hi hne => ?_⟩⟩
    · rw [hsz, Array.getElem?_append_left (by simpa using hgl), Array.getElem?_modify, if_pos rfl, hg]
      simp only [Option.map_some, onCells]
      rw [putCells_flat xs ys full hl ht (by omega)]
    · exact List.take_left
    · rw [hsz, Array.getElem?_append_left (by simpa using hi), Array.getElem?_modify, if_neg (by simp at hne; exact fun h => hne h.symm)]
end
end
section
open Go.RowKit Go.Sort Go.Shelf
set_option linter.unusedSimpArgs false
set_option linter.unusedVariables false

theorem grow_ofp {w w' : World} (h : Chg [] w w') (hd : w.drawn ≤ w'.drawn) : ∃ q os, w' = Sort.grow (w.drewN q) os := by
  refine ⟨w'.drawn - w.drawn, w'.heap.extract w.heap.size w'.heap.size, ?_⟩
  obtain ⟨h1, h2, h3, h4, h5⟩ := h
  obtain ⟨hp, tp, dr, os, ou⟩ := w'
  obtain ⟨hp0, tp0, dr0, os0, ou0⟩ := w
  simp only at h1 h2 h3 h4 h5 hd ⊢
  subst h1 h2 h3
  simp only [Sort.grow, World.drewN, World.mk.injEq, true_and, and_true]
  refine ⟨?_, by omega⟩
  apply Array.ext_getElem?
  intro i
  by_cases hi : i < hp0.size
  · rw [Array.getElem?_append_left hi]
    exact h5 i hi (by simp)
  · rw [Array.getElem?_append_right (by omega), Array.getElem?_extract]
    by_cases hj : i < hp.size
    · rw [if_pos (by omega)]
      congr 1
      omega
    · rw [if_neg (by omega), Array.getElem?_eq_none (by omega)]
theorem rdk_nil {α : Type} {R : RowTy α} {w : World} {n : Nat} {xs : List α} (h : RdK R w none n xs) : xs = [] := by
  cases xs with
  | nil => rfl
  | cons y ys =>
    have : 0 < (R.flat (y :: ys)).length := by rw [R.flat_len, List.length_cons]; exact Nat.mul_pos (by omega) R.kpos
    obtain ⟨a, h, _⟩ := h.cells 0 _ (List.getElem?_eq_getElem this); cases h
/-- What a 'cmp' tells, and that it only makes new memory. -/
def CmpSays {α : Type} [Inhabited α] (R : RowTy α) (g : Nat) (cf : α → α → Int) : Prop :=
  ∀ (W : World) (x y : α), Calls Tryz.prog g #[.agg (R.enc x).toArray, .agg (R.enc y).toArray] W fun e w' => e = .returned (.int .i64 (cf x y)) ∧ Chg [] W w' ∧ W.drawn ≤ w'.drawn
theorem sortp_some {α : Type} [Inhabited α] {R : RowTy α} {ρ : Ren} (L : SlLaysF0.n6 Tryz.prog ρ) (aE : ∀ w, (isAgg (ρ.t 24)).run Tryz.prog w = .ok true w) (zE : ∀ w, (Go.sizeOf (ρ.t 24)).run Tryz.prog w = .ok R.k w) (cf : α → α → Int) (hO : SWO (ltOf cf)) (g : Nat) (eg : ∀ args w, (callFunc g args).run Tryz.prog w = .ok (.enter g args) w)
    (hcmp : CmpSays R g cf) (w : World) (b c : Nat) (xs : List α) (h : OwnK R w (some ⟨b, 0, none⟩) c xs) (hm : xs.length < 4611686018427387904) :
    Calls Tryz.prog (ρ.f 6) #[.slice (some ⟨b, 0, none⟩) xs.length c, .func (.func g) #[] #[]] w fun e w' => e = .returned (.tuple #[]) ∧ ∃ ys, ys.Perm xs ∧ ys.Pairwise (fun x y => ltOf cf y x = false) ∧ OwnK R w' (some ⟨b, 0, none⟩) c ys ∧ Chg [b] w w' := by
  have hblk : b < w.heap.size := h.lt_ _ rfl
  have hc2 : CmpLays Tryz.prog g #[] R.enc R.k cf b 0 xs.toArray.size w := fun m os dk _ x y => by
    have := (hcmp (sortWorldK R.enc R.k w b 0 m dk os) x y).mono (fun e w' ⟨he, hc, hd⟩ => (⟨he, grow_ofp hc hd⟩ : e = Ending.returned (.int .i64 (cf x y)) ∧ ∃ q os', w' = grow ((sortWorldK R.enc R.k w b 0 m dk os).drewN q) os'))
    exact this
  have hcon := AnyQ.slices_SortFunc L R.k aE zE R.enc R.klen R.one cf hO g #[] b 0 c xs.toArray w eg hc2 h.holds hblk (by simpa using hm)
  refine Calls.mono hcon ?_
  rintro e w' ⟨he, d', n, os, ⟨hsz, _, hp⟩, hs, hw⟩
  have hlen : d'.toList.length = xs.length := by simpa using hsz
  have hsz2 : d'.size = xs.toArray.size := hsz
  have hp2 : d'.toList.Perm xs := by
    rw [← hsz, Array.extract_size] at hp
    rw [hsz, Array.extract_size] at hp
    simpa using hp
  have o := h.sorted (ys := d'.toList) hlen n os
  rw [show d'.toList.toArray = d' by simp, ← hw] at o
  refine ⟨he, d'.toList, hp2, ?_, o.1, o.2⟩
  rw [List.pairwise_iff_getElem]
  intro i j hi hj hij
  have hi' : i < d'.size := by simpa using hi
  have hj' : j < d'.size := by simpa using hj
  have := hs i j (Nat.zero_le _) hij (by rw [← hsz2]; exact hj')
  rw [getElem!_pos d' j hj', getElem!_pos d' i hi'] at this
  simpa using this
theorem sortp_any {α : Type} [Inhabited α] {R : RowTy α} {ρ : Ren} (L : SlLaysF0.n6 Tryz.prog ρ) (aE : ∀ w, (isAgg (ρ.t 24)).run Tryz.prog w = .ok true w) (zE : ∀ w, (Go.sizeOf (ρ.t 24)).run Tryz.prog w = .ok R.k w) (cf : α → α → Int) (hO : SWO (ltOf cf)) (g : Nat) (eg : ∀ args w, (callFunc g args).run Tryz.prog w = .ok (.enter g args) w)
    (hcmp : CmpSays R g cf) (w : World) (A : Option Addr) (c : Nat) (xs : List α) (h : OwnK R w A c xs) (hm : xs.length < 4611686018427387904) :
    Calls Tryz.prog (ρ.f 6) #[.slice A xs.length c, .func (.func g) #[] #[]] w fun e w' => e = .returned (.tuple #[]) ∧ ∃ ys, ys.Perm xs ∧ ys.Pairwise (fun x y => ltOf cf y x = false) ∧ OwnK R w' A c ys ∧ Chg (blkOf A) w w' := by
  rcases h.shape with ⟨rfl, rfl, rfl⟩ | ⟨b, rfl, _⟩
  · have := AnyF.slices_SortFunc_none L none 0 (.func (.func g) #[] #[]) w
    refine Calls.mono this ?_
    rintro e w' ⟨he, rfl⟩
    exact ⟨he, [], List.Perm.refl _, List.Pairwise.nil, OwnK.none_ _, Chg.refl _ _⟩
  · exact sortp_some L aE zE cf hO g eg hcmp w b c xs h hm
end
section
open Go.RowKit Go.Lib
set_option linter.unusedSimpArgs false
set_option linter.unusedVariables false


/-- New memory and draws: no more. -/
def Gr (w w' : World) : Prop := Chg [] w w' ∧ w.drawn ≤ w'.drawn
theorem Gr.trans {a b c : World} (h : Gr a b) (k : Gr b c) : Gr a c := ⟨h.1.trans k.1, Nat.le_trans h.2 k.2⟩
theorem gr2 (w : World) (o o' : Obj) : ∃ w' : World, w' = (w.alloc o).alloc o' ∧ Gr w w' ∧ w'.heap[w.heap.size]? = some o ∧ w'.heap[w.heap.size + 1]? = some o' := by
  obtain ⟨w', h, c, b0, b1⟩ := news2 w o o'
  exact ⟨w', h, ⟨c, by rw [h]; exact Nat.le_refl _⟩, b0, b1⟩
set_option maxHeartbeats 1000000 in
theorem dcmp_gr (w : World) (a s b t : Int) :
    Calls Tryz.prog 66 #[.agg #[.int .i64 a, .int .i64 s], .agg #[.int .i64 b, .int .i64 t]] w fun e w' => e = .returned (.int .i64 (cmpD a s b t)) ∧ Gr w w' := by
  obtain ⟨w0, hw0, c0, b0, b1⟩ := news2 w (.cells #[.int .i64 a, .int .i64 s] 23) (.cells #[.int .i64 b, .int .i64 t] 23)
  have k0 := cell_of b0 0
  have k1 := cell_of b0 1
  have k3 := cell_of b1 0
  have k4 := cell_of b1 1
  simp only [List.getElem?_toArray, List.getElem?_cons_succ, List.getElem?_cons_zero] at k0 k1 k3 k4
  have g0 := lt_of_heap b0
  have g1 := lt_of_heap b1
  have W0 := Lib.hid hw0
  have GR : Hid (∀ o, Gr w (w0.alloc o).drew) := Lib.hid (fun o => ⟨(c0.alloc o).drew, by rw [hw0]; exact Nat.le_succ _⟩)
  clear hw0 c0 b0 b1
  unfold cmpD
  generalize hr : or2 (cmpI a b) (cmpI s t) = R
  have HR := Lib.hid hr
  clear hr
  go_enter Tryz.func66, Tryz.ntmps66
  go_wp2
  rw [← W0.out]
  have n1 := World.new_ne w0 ⟨w.heap.size, 0, none⟩ k0
  have n2 := World.new_ne w0 ⟨w.heap.size + 1, 0, none⟩ k3
  generalize w.heap.size + 1 = s1 at *
  generalize w.heap.size = s0 at *
  go_region_held3 (fun w' => w'.cell? ⟨s0, 0, none⟩ = some (.int .i64 a) ∧ w'.cell? ⟨s0, 1, none⟩ = some (.int .i64 s) ∧ w'.cell? ⟨s1, 0, none⟩ = some (.int .i64 b) ∧ w'.cell? ⟨s1, 1, none⟩ = some (.int .i64 t)) (first | exact ⟨k0, k1, k3, k4⟩ | go_keep)
    ((first
      | (go_at_call 106; (with_reducible refine (cmpint_any _ _ _).mono ?_); rintro e w1 ⟨rfl, rfl⟩)
      | (go_at_call 57; refine (or2_any _ w0.heap.size (cmpI a b) (cmpI s t) (show (w0.alloc _).drew.heap[_]? = _ from heap_alloc_new w0 _)).mono ?_; rintro e w1 ⟨rfl, rfl⟩)))
  all_goals
    go_wp2
    go_ret
    exact ⟨by first | rfl | (rw [← HR.out]; rfl), GR.out _⟩
theorem dless_gr (w : World) (a s b t : Int) :
    Calls Tryz.prog 31 #[.agg #[.int .i64 a, .int .i64 s], .agg #[.int .i64 b, .int .i64 t]] w fun e w' => e = .returned (.bool (decide (LtD a s b t))) ∧ Gr w w' := by
  have h : decide (cmpD a s b t < 0) = decide (LtD a s b t) := decide_eq_decide.2 cmpD_lt
  generalize decide (LtD a s b t) = B at *
  go_enter Tryz.func31, Tryz.ntmps31
  go_wp2_with fail
  refine (dcmp_gr _ _ _ _ _).mono ?_
  rintro e w1 ⟨rfl, c1⟩
  have C1 : Hid (Gr w w1) := Lib.hid (Gr.trans ⟨((Chg.refl [] w).alloc _).alloc _, Nat.le_refl _⟩ c1)
  clear c1
  go_wp2
  go_ret
  exact ⟨rfl, C1.out⟩
theorem cmpD_is (a s b t : Int) : cmpD a s b t = if LtD a s b t then -1 else if LtD b t a s then 1 else 0 := by
  have h1 := @cmpD_lt a s b t
  unfold cmpD or2 cmpI at *
  unfold LtD
  split <;> split <;> (try split) <;> omega
set_option maxRecDepth 100000 in
set_option maxHeartbeats 2000000 in
/-- order.Of of dots, at dot.Less. -/
theorem orderof_gr (w : World) (a s b t : Int) :
    Calls Tryz.prog 58 #[.agg #[.int .i64 a, .int .i64 s], .agg #[.int .i64 b, .int .i64 t], .func (.func 31) #[] #[]] w fun e w' => e = .returned (.int .i64 (cmpD a s b t)) ∧ Gr w w' := by
  obtain ⟨w0, hw0, c0, b0, b1⟩ := gr2 w (.cells #[.int .i64 a, .int .i64 s] 23) (.cells #[.int .i64 b, .int .i64 t] 23)
  have W0 := Lib.hid hw0
  have G := Lib.hid c0
  have B0 := Lib.hid b0
  have B1 := Lib.hid b1
  rw [cmpD_is]
  clear hw0 c0 b0 b1
  go_enter Tryz.func58, Tryz.ntmps58
  go_upto_region 1 with fail
  rw [← W0.out]
  generalize w.heap.size + 1 = s1 at *
  generalize w.heap.size = s0 at *
  have k0 := cell_of B0.out 0
  have k1 := cell_of B0.out 1
  have k3 := cell_of B1.out 0
  have k4 := cell_of B1.out 1
  simp only [List.getElem?_toArray, List.getElem?_cons_succ, List.getElem?_cons_zero] at k0 k1 k3 k4
  go_wp2_with fail
  clear k0 k1 k3 k4
  refine (dless_gr _ _ _ _ _).mono ?_
  rintro e w1 ⟨rfl, c1⟩
  replace G := Lib.hid (G.out.trans c1)
  replace B0 := Lib.hid (c1.1.at_ B0.out (by simp))
  replace B1 := Lib.hid (c1.1.at_ B1.out (by simp))
  clear c1
  by_cases h1 : LtD a s b t
  · rw [decide_eq_true h1]
    have H1 := Lib.hid h1
    clear h1
    go_wp2
    go_ret
    exact ⟨by first | rfl | rw [if_pos H1.out], G.out⟩
  rw [decide_eq_false h1]
  have N1 := Lib.hid h1
  clear h1
  have k0 := cell_of B0.out 0
  have k1 := cell_of B0.out 1
  have k3 := cell_of B1.out 0
  have k4 := cell_of B1.out 1
  simp only [List.getElem?_toArray, List.getElem?_cons_succ, List.getElem?_cons_zero] at k0 k1 k3 k4
  go_wp2_with fail
  clear k0 k1 k3 k4
  refine (dless_gr _ _ _ _ _).mono ?_
  rintro e w2 ⟨rfl, c1⟩
  replace G := Lib.hid (G.out.trans c1)
  clear c1
  by_cases h1 : LtD b t a s
  · rw [decide_eq_true h1]
    have H1 := Lib.hid h1
    clear h1
    go_wp2
    go_ret
    exact ⟨by first | rfl | rw [if_neg N1.out, if_pos H1.out], G.out⟩
  · rw [decide_eq_false h1]
    have H1 := Lib.hid h1
    clear h1
    go_wp2
    go_ret
    exact ⟨by first | rfl | rw [if_neg N1.out, if_neg H1.out], G.out⟩
set_option maxRecDepth 100000 in
set_option maxHeartbeats 2000000 in
theorem evbydot_gr (w : World) (x : EvT) (n s : Int) :
    Calls Tryz.prog 70 #[.agg #[.int .i64 x.n, .int .i64 x.s, .string x.p, .int .i64 x.k, .int .i64 x.m, .slice x.A x.l x.c, .slice x.B x.bl x.bc], .agg #[.int .i64 n, .int .i64 s]] w fun e w' => e = .returned (.int .i64 (cmpD x.n x.s n s)) ∧ Gr w w' := by
  obtain ⟨w0, hw0, c0, b0, b1⟩ := gr2 w (.cells #[.int .i64 x.n, .int .i64 x.s, .string x.p, .int .i64 x.k, .int .i64 x.m, .slice x.A x.l x.c, .slice x.B x.bl x.bc] 29) (.cells #[.int .i64 n, .int .i64 s] 23)
  have W0 := Lib.hid hw0
  have G := Lib.hid c0
  have k0 := cell_of b0 0
  have k1 := cell_of b0 1
  have k2 := cell_of b0 2
  have k3 := cell_of b0 3
  have k4 := cell_of b0 4
  have k5 := cell_of b0 5
  have k6 := cell_of b0 6
  simp only [List.getElem?_toArray, List.getElem?_cons_succ, List.getElem?_cons_zero] at k0 k1 k2 k3 k4 k5 k6
  have d0 := cell_of b1 0
  have d1 := cell_of b1 1
  simp only [List.getElem?_toArray, List.getElem?_cons_succ, List.getElem?_cons_zero] at d0 d1
  clear hw0 c0 b0 b1
  go_enter Tryz.func70, Tryz.ntmps70
  go_upto_region 1 with fail
  rw [← W0.out]
  generalize w.heap.size + 1 = s1 at *
  generalize w.heap.size = s0 at *
  go_wp2_with fail
  refine (orderof_gr _ _ _ _ _).mono ?_
  rintro e w1 ⟨rfl, c1⟩
  replace G := Lib.hid (G.out.trans c1)
  clear c1 k0 k1 k2 k3 k4 k5 k6 d0 d1
  go_wp2
  go_ret
  exact ⟨rfl, G.out⟩
instance : Inhabited EvT := ⟨evTy.z⟩
def cmpEv (x y : EvT) : Int := cmpD x.n x.s y.n y.s
theorem ltEv (x y : EvT) : ltOf cmpEv x y = decide (LtD x.n x.s y.n y.s) := by
  unfold ltOf cmpEv
  exact decide_eq_decide.2 cmpD_lt
theorem swoEv : Go.Sort.SWO (ltOf cmpEv) where
  irrefl x := by rw [ltEv]; simp [LtD]
  trans x y z h1 h2 := by
    rw [ltEv, decide_eq_true_eq] at *
    unfold LtD at *
    omega
  ntrans x y z h1 h2 := by
    rw [ltEv, decide_eq_false_iff_not] at *
    unfold LtD at *
    omega
set_option maxRecDepth 100000 in
set_option maxHeartbeats 2000000 in
theorem evcmp_says : CmpSays evTy 69 cmpEv := fun w x y => by
  show Calls Tryz.prog 69 #[.agg #[.int .i64 x.n, .int .i64 x.s, .string x.p, .int .i64 x.k, .int .i64 x.m, .slice x.A x.l x.c, .slice x.B x.bl x.bc], .agg #[.int .i64 y.n, .int .i64 y.s, .string y.p, .int .i64 y.k, .int .i64 y.m, .slice y.A y.l y.c, .slice y.B y.bl y.bc]] w fun e w' => e = .returned (.int .i64 (cmpD x.n x.s y.n y.s)) ∧ Gr w w'
  obtain ⟨w0, hw0, c0, b0, b1⟩ := gr2 w (.cells #[.int .i64 x.n, .int .i64 x.s, .string x.p, .int .i64 x.k, .int .i64 x.m, .slice x.A x.l x.c, .slice x.B x.bl x.bc] 29) (.cells #[.int .i64 y.n, .int .i64 y.s, .string y.p, .int .i64 y.k, .int .i64 y.m, .slice y.A y.l y.c, .slice y.B y.bl y.bc] 29)
  have W0 := Lib.hid hw0
  have G := Lib.hid c0
  have k0 := cell_of b0 0
  have k1 := cell_of b0 1
  have k2 := cell_of b0 2
  have k3 := cell_of b0 3
  have k4 := cell_of b0 4
  have k5 := cell_of b0 5
  have k6 := cell_of b0 6
  simp only [List.getElem?_toArray, List.getElem?_cons_succ, List.getElem?_cons_zero] at k0 k1 k2 k3 k4 k5 k6
  have d0 := cell_of b1 0
  have d1 := cell_of b1 1
  have d2 := cell_of b1 2
  have d3 := cell_of b1 3
  have d4 := cell_of b1 4
  have d5 := cell_of b1 5
  have d6 := cell_of b1 6
  simp only [List.getElem?_toArray, List.getElem?_cons_succ, List.getElem?_cons_zero] at d0 d1 d2 d3 d4 d5 d6
  clear hw0 c0 b0 b1
  go_enter Tryz.func69, Tryz.ntmps69
  go_upto_region 1 with fail
  rw [← W0.out]
  generalize w.heap.size + 1 = s1 at *
  generalize w.heap.size = s0 at *
  go_wp2_with fail
  refine (evbydot_gr _ x _ _).mono ?_
  rintro e w1 ⟨rfl, c1⟩
  replace G := Lib.hid (G.out.trans c1)
  clear c1 k0 k1 k2 k3 k4 k5 k6 d0 d1 d2 d3 d4 d5 d6
  go_wp2
  go_ret
  exact ⟨rfl, G.out⟩
set_option maxRecDepth 100000 in
set_option maxHeartbeats 1000000 in
theorem cloneEv_any (w : World) (A : Option Addr) (n c : Nat) (xs : List EvT) (h : RdK evTy w A n xs) (hn : n * 400 ≤ 140737488355327) :
    Calls Tryz.prog 67 #[.slice A n c] w fun e w' => ∃ A' c', e = .returned (.slice A' n c') ∧ OwnK evTy w' A' c' xs ∧ (∀ a, A' = some a → w.heap.size ≤ a.block) ∧ Chg [] w w' := by
  have heq := fun W => Lib.run_eql_slice_nil (P := Tryz.prog) W 31 29 A n c 0 0 Tryz.underlying31
  cases A with
  | none =>
    have hx := rdk_nil h
    subst hx
    have hl : n = 0 := h.len.symm
    subst hl
    clear h
    go_enter Tryz.func67, Tryz.ntmps67
    go_wp2
    go_ret
    exact ⟨none, 0, rfl, OwnK.none_ _, by simp, Chg.refl _ _⟩
  | some ad =>
    obtain ⟨w1, hw1, c1, b1⟩ := news1 w (.cells #[] 29)
    have W1 := Lib.hid hw1
    have HA := Lib.hid (h.chg c1 (by simp))
    have HO : Hid (OwnK evTy w1 (some ⟨w.heap.size, 0, none⟩) 0 []) := Lib.hid (.of (full := []) b1 (Nat.le_refl _) (Nat.zero_le _) rfl rfl)
    have C1 := Lib.hid c1
    have HN : Hid ((0 + n) * 400 ≤ 140737488355327) := Lib.hid (by rw [Nat.zero_add]; exact hn)
    clear hw1 c1 b1 h hn
    go_enter Tryz.func67, Tryz.ntmps67
    go_wp2_with (at_builtin; rw [← W1.out]; refine wpList_appK rfl _ _ rfl rfl HO.out rfl rfl HA.out HN.out ?_; intro A2 c2 w2 u2 d2 e2)
    go_ret
    rw [Nat.zero_add] at *
    have hA2 : ∀ a, A2 = some a → w.heap.size ≤ a.block := by
      rintro a rfl
      rcases e2 with h | h
      · cases h; exact Nat.le_refl _
      · cases h; exact C1.out.size
    exact ⟨A2, c2, rfl, by simpa using u2, hA2, C1.out.grown d2 (fun k hk => by simp at hk; subst hk; exact .inr (Nat.le_refl _))⟩
end
section
open Go.RowKit Go.Lib
set_option linter.unusedSimpArgs false
set_option linter.unusedVariables false


/-- An event beside a dot. -/
def cmpEd (x : EvT) (n s : Int) : Int := cmpD x.n x.s n s
theorem cmpEd_neg {x : EvT} {n s : Int} : cmpEd x n s < 0 ↔ LtD x.n x.s n s := cmpD_lt
theorem cmpEd_zero {x : EvT} {n s : Int} : cmpEd x n s = 0 ↔ x.n = n ∧ x.s = s := by
  unfold cmpEd
  rw [cmpD_is]
  by_cases h1 : LtD x.n x.s n s
  · rw [if_pos h1]
    unfold LtD at h1
    exact ⟨fun h => absurd h (by decide), fun h => absurd h1 (by omega)⟩
  · rw [if_neg h1]
    by_cases h2 : LtD n s x.n x.s
    · rw [if_pos h2]
      unfold LtD at h2
      exact ⟨fun h => absurd h (by decide), fun h => absurd h2 (by omega)⟩
    · rw [if_neg h2]
      unfold LtD at h1 h2
      exact ⟨fun _ => by omega, fun _ => rfl⟩
/-- In order, by dots. -/
def UpE (xs : List EvT) : Prop := xs.Pairwise (fun x y => ¬ LtD y.n y.s x.n x.s)
theorem up_at {l : List EvT} (h : UpE l) {p q : Nat} {x y : EvT} (hx : l[p]? = some x) (hy : l[q]? = some y) (hl : p < q) : ¬ LtD y.n y.s x.n x.s := by
  obtain ⟨l1, e1⟩ := List.getElem?_eq_some_iff.1 hx
  obtain ⟨l2, e2⟩ := List.getElem?_eq_some_iff.1 hy
  have := List.pairwise_iff_getElem.1 h p q l1 l2 hl
  rw [e1, e2] at this
  exact this
def LoE (xs : List EvT) (n s : Int) (i : Nat) : Prop := ∀ p x, xs[p]? = some x → p < i → LtD x.n x.s n s
def HiE (xs : List EvT) (n s : Int) (j : Nat) : Prop := ∀ p x, xs[p]? = some x → j ≤ p → ¬ LtD x.n x.s n s
theorem loE_next {xs : List EvT} {n s : Int} (hn : UpE xs) {h : Nat} {x : EvT} (hx : xs[h]? = some x) (hc : cmpEd x n s < 0) : LoE xs n s (h + 1) := by
  intro p y hy hp
  rw [cmpEd_neg] at hc
  by_cases e : p = h
  · subst e; rw [hx] at hy; cases hy; exact hc
  · have a := up_at hn hy hx (by omega)
    unfold LtD at *
    omega
theorem hiE_next {xs : List EvT} {n s : Int} (hn : UpE xs) {h : Nat} {x : EvT} (hx : xs[h]? = some x) (hc : ¬ cmpEd x n s < 0) : HiE xs n s h := by
  intro p y hy hp
  rw [cmpEd_neg] at hc
  by_cases e : p = h
  · subst e; rw [hx] at hy; cases hy; exact hc
  · have a := up_at hn hx hy (by omega)
    unfold LtD at *
    omega
/-- Is there one of this dot? -/
def inE (xs : List EvT) (n s : Int) : Bool := xs.any (fun x => decide (x.n = n ∧ x.s = s))
theorem inE_yes {xs : List EvT} {n s : Int} {i : Nat} {x : EvT} (hx : xs[i]? = some x) (hc : cmpEd x n s = 0) : inE xs n s = true := by
  unfold inE
  rw [List.any_eq_true]
  exact ⟨x, List.mem_of_getElem? hx, decide_eq_true (cmpEd_zero.1 hc)⟩
theorem inE_no {xs : List EvT} {n s : Int} (hn : UpE xs) {i : Nat} (hl : LoE xs n s i) (hh : HiE xs n s i) (hx : ∀ x, xs[i]? = some x → cmpEd x n s ≠ 0) : inE xs n s = false := by
  rcases q : inE xs n s with _ | _
  · rfl
  · unfold inE at q
    rw [List.any_eq_true] at q
    obtain ⟨y, hy, hi⟩ := q
    have hi := of_decide_eq_true hi
    obtain ⟨q, hq, rfl⟩ := List.getElem_of_mem hy
    have hz : cmpEd xs[q] n s = 0 := cmpEd_zero.2 hi
    have hqe := List.getElem?_eq_getElem hq
    rcases Nat.lt_trichotomy q i with h | h | h
    · have := hl q _ hqe h
      unfold LtD at this
      omega
    · subst h; exact absurd hz (hx _ hqe)
    · have hie := List.getElem?_eq_getElem (show i < xs.length by omega)
      have a := up_at hn hie hqe h
      have b := hh i _ hie (Nat.le_refl _)
      have c := hx _ hie
      have d : ¬ (xs[i].n = n ∧ xs[i].s = s) := fun e => c (cmpEd_zero.2 e)
      unfold LtD at a b
      omega
end
section
open Go.RowKit Go.Lib
set_option linter.unusedSimpArgs false
set_option linter.unusedVariables false


theorem evbydot_e (w : World) (x : EvT) (n s : Int) : Calls Tryz.prog 70 #[.agg #[.int .i64 x.n, .int .i64 x.s, .string x.p, .int .i64 x.k, .int .i64 x.m, .slice x.A x.l x.c, .slice x.B x.bl x.bc], .agg #[.int .i64 n, .int .i64 s]] w fun e w' => e = .returned (.int .i64 (cmpEd x n s)) ∧ Chg [] w w' := (evbydot_gr w x n s).mono (fun _ _ h => ⟨h.1, h.2.1⟩)
set_option maxRecDepth 100000 in
set_option maxHeartbeats 8000000 in
theorem binev_any (w : World) (A : Option Addr) (c : Nat) (xs : List EvT) (n s : Int) (h : RdK evTy w A xs.length xs) (hn : UpE xs) (hl : xs.length ≤ 100000) :
    Calls Tryz.prog 109 #[.slice A xs.length c, .agg #[.int .i64 n, .int .i64 s], .func (.func 70) #[] #[]] w fun e w' => ∃ i : Nat, i ≤ xs.length ∧ LoE xs n s i ∧ HiE xs n s i ∧ e = .returned (.tuple #[.int .i64 (i : Int), .bool (inE xs n s)]) ∧ Chg [] w w' := by
  have HX := Lib.hid h
  have HNM := Lib.hid hn
  have HL := Lib.hid hl
  clear h hn hl
  obtain ⟨w1, hw1, c1, b1⟩ := news1 w (.cells #[.int .i64 n, .int .i64 s] 23)
  have W1 := Lib.hid hw1
  have C1 := Lib.hid c1
  have B1 := Lib.hid b1
  clear hw1 c1 b1
  go_enter Tryz.func109, Tryz.ntmps109
  go_upto_region 2 with fail
  rw [← W1.out]
  generalize w.heap.size = g0 at *
  clear W1
  go_wp2
  go_loopw [9, 10] (fun v9 v10 wr => ∃ (i j : Nat), i ≤ j ∧ j ≤ xs.length ∧ v9 = .int .i64 (i : Int) ∧ v10 = .int .i64 (j : Int) ∧ Hid (LoE xs n s i ∧ HiE xs n s j) ∧ Hid (Chg [] w1 wr)) (fun v9 v10 _ => (RowKit.intOf v10).toNat - (RowKit.intOf v9).toNat)
  case atStart => exact ⟨0, xs.length, Nat.zero_le _, Nat.le_refl _, rfl, rfl, Lib.hid ⟨fun p x _ h => absurd h (by omega), fun p x hx h => absurd ((List.getElem?_eq_some_iff.1 hx).1) (by omega)⟩, Chg.refl _ _⟩
  case round =>
    obtain ⟨i, j, hij, hj, rfl, rfl, HI, HC⟩ := hrel
    have i0 : (0 : Int) ≤ (i : Int) := by omega
    have hl := HL.out
    have i1 : IntKind.i64.wrap ((i : Int) + (j : Int)) = ((i + j : Nat) : Int) := by rw [IntWalk.i64_in _ (by omega)]; omega
    by_cases hlt : i < j
    · have i2 : (i : Int) < (j : Int) := by omega
      go_upto_region 5 with fail
      obtain ⟨k, hk⟩ : ∃ k : Nat, k = (i + j) / 2 := ⟨_, rfl⟩
      have e1 : ((i : Int) + (j : Int)) / 2 = (k : Int) := by omega
      rw [e1]
      have hk1 : i ≤ k ∧ k < j := by omega
      clear hk e1 i1 i2
      obtain ⟨x, hx⟩ : ∃ x, xs[k]? = some x := ⟨_, List.getElem?_eq_getElem (by omega)⟩
      have R4 := (HX.out.chg C1.out (by simp)).chg HC.out (by simp)
      obtain ⟨g, o, eA, _⟩ := R4.line (by omega)
      subst eA
      obtain ⟨q0, q1, q2, q3, q4, q5, q6⟩ := evCells R4 hx
      have b4 := HC.out.at_ B1.out (by simp)
      have d0 := cell_of b4 0
      have d1 := cell_of b4 1
      simp only [List.getElem?_toArray, List.getElem?_cons_succ, List.getElem?_cons_zero] at d0 d1
      have k0 : (0 : Int) ≤ (k : Int) := by omega
      have k1 : (k : Int) < (xs.length : Int) := by omega
      have HX5 := Lib.hid hx
      clear R4 b4 hx
      refine wp_region_held_drew (S := fun w' => w'.cell? ⟨g, o + k * 7, none⟩ = some (.int .i64 x.n) ∧ w'.cell? ⟨g, o + k * 7 + 1, none⟩ = some (.int .i64 x.s) ∧ w'.cell? ⟨g, o + k * 7 + 2, none⟩ = some (.string x.p) ∧ w'.cell? ⟨g, o + k * 7 + 3, none⟩ = some (.int .i64 x.k) ∧ w'.cell? ⟨g, o + k * 7 + 4, none⟩ = some (.int .i64 x.m) ∧ w'.cell? ⟨g, o + k * 7 + 5, none⟩ = some (.slice x.A x.l x.c) ∧ w'.cell? ⟨g, o + k * 7 + 6, none⟩ = some (.slice x.B x.bl x.bc) ∧ w'.cell? ⟨g0, 0, none⟩ = some (.int .i64 n) ∧ w'.cell? ⟨g0, 1, none⟩ = some (.int .i64 s)) (by kernel_rfl) ⟨q0, q1, q2, q3, q4, q5, q6, d0, d1⟩ (fun hHeld => ?_)
      have CD := Lib.hid (Chg.refl [] wr).drew
      have HH := Lib.hid (fun (w' : World) (hc : Chg [] wr.drew w') => (⟨(CD.out.trans hc).cell q0 (by simp), (CD.out.trans hc).cell q1 (by simp), (CD.out.trans hc).cell q2 (by simp), (CD.out.trans hc).cell q3 (by simp), (CD.out.trans hc).cell q4 (by simp), (CD.out.trans hc).cell q5 (by simp), (CD.out.trans hc).cell q6 (by simp), (CD.out.trans hc).cell d0 (by simp), (CD.out.trans hc).cell d1 (by simp)⟩ : w'.cell? ⟨g, o + k * 7, none⟩ = some (.int .i64 x.n) ∧ w'.cell? ⟨g, o + k * 7 + 1, none⟩ = some (.int .i64 x.s) ∧ w'.cell? ⟨g, o + k * 7 + 2, none⟩ = some (.string x.p) ∧ w'.cell? ⟨g, o + k * 7 + 3, none⟩ = some (.int .i64 x.k) ∧ w'.cell? ⟨g, o + k * 7 + 4, none⟩ = some (.int .i64 x.m) ∧ w'.cell? ⟨g, o + k * 7 + 5, none⟩ = some (.slice x.A x.l x.c) ∧ w'.cell? ⟨g, o + k * 7 + 6, none⟩ = some (.slice x.B x.bl x.bc) ∧ w'.cell? ⟨g0, 0, none⟩ = some (.int .i64 n) ∧ w'.cell? ⟨g0, 1, none⟩ = some (.int .i64 s)))
      clear q0 q1 q2 q3 q4 q5 q6 d0 d1
      generalize wr.drew = wd at *
      refine sy 0 24 rfl rfl ?_
      try simp only [Act.put, sA, s0, s1]
      refine sy 1 25 rfl rfl ?_
      try simp only [Act.put, sA, s0, s1]
      refine sy 2 26 rfl rfl ?_
      try simp only [Act.put, sA, s0, s1]
      refine sy 3 27 rfl rfl ?_
      try simp only [Act.put, sA, s0, s1]
      refine sy 4 28 rfl rfl ?_ (hy := by (intro w hSw; (try dsimp only at hSw); obtain ⟨q0, q1, q2, q3, q4, q5, q6, q7, q8⟩ := hSw; go_simp; try with_reducible rfl))
      try simp only [Act.put, sA, s0, s1]
      refine sy 5 29 rfl rfl ?_ (hy := by (intro w hSw; (try dsimp only at hSw); obtain ⟨q0, q1, q2, q3, q4, q5, q6, q7, q8⟩ := hSw; go_simp; try with_reducible rfl))
      try simp only [Act.put, sA, s0, s1]
      refine wpAnyH_ready (rs := [6]) (by kernel_rfl) (by simp) ?_
      refine AllReadyH.cons rfl (fun K hK => ?_) AllReadyH.nil
      replace hK := Lib.hid hK
      go_simp
      refine (evbydot_e wd x n s).mono ?_
      rintro r w6 ⟨rfl, h6⟩
      have C6 := Lib.hid h6
      clear h6 hHeld
      refine hK.out _ _ (HH.out w6 C6.out) (fun hHeld => ?_)
      clear hK K
      try simp only [Act.put, sA, s0, s1]
      refine sy 7 31 rfl rfl ?_
      try simp only [Act.put, sA, s0, s1]
      refine wpAnyH_done (by kernel_rfl) ?_ _
      clear hHeld HH
      have CE := Lib.hid (HC.out.trans (CD.out.trans C6.out))
      by_cases hneg : cmpEd x n s < 0
      · have LO := Lib.hid (loE_next HNM.out HX5.out hneg)
        have dn1 : decide (cmpEd x n s < 0) = true := decide_eq_true hneg
        have w1' : IntKind.i64.wrap ((k : Int) + 1) = (k : Int) + 1 := IntWalk.i64_in _ (by omega)
        go_wp2
        go_round
        case rel => exact ⟨k + 1, j, by omega, hj, by go_num, rfl, Lib.hid ⟨LO.out, HI.out.2⟩, CE.out⟩
        case measure => simp [RowKit.intOf]; omega
      · have HIN := Lib.hid (hiE_next HNM.out HX5.out hneg)
        have dn1 : decide (cmpEd x n s < 0) = false := decide_eq_false hneg
        go_wp2
        go_round
        case rel => exact ⟨i, k, by omega, by omega, rfl, rfl, Lib.hid ⟨HI.out.1, HIN.out⟩, CE.out⟩
        case measure => simp [RowKit.intOf]; omega
    · obtain rfl : i = j := by omega
      have i2 : ¬ (i : Int) < (i : Int) := by omega
      by_cases hin : i < xs.length
      · have k1 : (i : Int) < (xs.length : Int) := by omega
        have k2 : decide ((i : Int) < (xs.length : Int)) = true := by simp; omega
        have k3 : decide (i < xs.length) = true := by simp; omega
        obtain ⟨x, hx⟩ : ∃ x, xs[i]? = some x := ⟨_, List.getElem?_eq_getElem hin⟩
        have R4 := (HX.out.chg C1.out (by simp)).chg HC.out (by simp)
        obtain ⟨g, o, eA, _⟩ := R4.line (by omega)
        subst eA
        obtain ⟨q0, q1, q2, q3, q4, q5, q6⟩ := evCells R4 hx
        have b4 := HC.out.at_ B1.out (by simp)
        have d0 := cell_of b4 0
        have d1 := cell_of b4 1
        simp only [List.getElem?_toArray, List.getElem?_cons_succ, List.getElem?_cons_zero] at d0 d1
        have ANS : Hid (inE xs n s = decide (cmpEd x n s = 0)) := Lib.hid (by
          by_cases hz : cmpEd x n s = 0
          · rw [inE_yes hx hz, decide_eq_true hz]
          · rw [inE_no HNM.out HI.out.1 HI.out.2 (fun y hy => by rw [hx] at hy; cases hy; exact hz), decide_eq_false hz])
        clear R4 b4 hx
        go_upto_region 8 with fail
        refine wp_region_held_drew (S := fun w' => w'.cell? ⟨g, o + i * 7, none⟩ = some (.int .i64 x.n) ∧ w'.cell? ⟨g, o + i * 7 + 1, none⟩ = some (.int .i64 x.s) ∧ w'.cell? ⟨g, o + i * 7 + 2, none⟩ = some (.string x.p) ∧ w'.cell? ⟨g, o + i * 7 + 3, none⟩ = some (.int .i64 x.k) ∧ w'.cell? ⟨g, o + i * 7 + 4, none⟩ = some (.int .i64 x.m) ∧ w'.cell? ⟨g, o + i * 7 + 5, none⟩ = some (.slice x.A x.l x.c) ∧ w'.cell? ⟨g, o + i * 7 + 6, none⟩ = some (.slice x.B x.bl x.bc) ∧ w'.cell? ⟨g0, 0, none⟩ = some (.int .i64 n) ∧ w'.cell? ⟨g0, 1, none⟩ = some (.int .i64 s)) (by kernel_rfl) ⟨q0, q1, q2, q3, q4, q5, q6, d0, d1⟩ (fun hHeld => ?_)
        have CD := Lib.hid (Chg.refl [] wr).drew
        have HH := Lib.hid (fun (w' : World) (hc : Chg [] wr.drew w') => (⟨(CD.out.trans hc).cell q0 (by simp), (CD.out.trans hc).cell q1 (by simp), (CD.out.trans hc).cell q2 (by simp), (CD.out.trans hc).cell q3 (by simp), (CD.out.trans hc).cell q4 (by simp), (CD.out.trans hc).cell q5 (by simp), (CD.out.trans hc).cell q6 (by simp), (CD.out.trans hc).cell d0 (by simp), (CD.out.trans hc).cell d1 (by simp)⟩ : w'.cell? ⟨g, o + i * 7, none⟩ = some (.int .i64 x.n) ∧ w'.cell? ⟨g, o + i * 7 + 1, none⟩ = some (.int .i64 x.s) ∧ w'.cell? ⟨g, o + i * 7 + 2, none⟩ = some (.string x.p) ∧ w'.cell? ⟨g, o + i * 7 + 3, none⟩ = some (.int .i64 x.k) ∧ w'.cell? ⟨g, o + i * 7 + 4, none⟩ = some (.int .i64 x.m) ∧ w'.cell? ⟨g, o + i * 7 + 5, none⟩ = some (.slice x.A x.l x.c) ∧ w'.cell? ⟨g, o + i * 7 + 6, none⟩ = some (.slice x.B x.bl x.bc) ∧ w'.cell? ⟨g0, 0, none⟩ = some (.int .i64 n) ∧ w'.cell? ⟨g0, 1, none⟩ = some (.int .i64 s)))
        clear q0 q1 q2 q3 q4 q5 q6 d0 d1 i2
        generalize wr.drew = wd at *
        refine sy 0 35 rfl rfl ?_
        try simp only [Act.put, sA, s0, s1]
        refine sy 1 36 rfl rfl ?_
        try simp only [Act.put, sA, s0, s1]
        refine sy 2 37 rfl rfl ?_
        try simp only [Act.put, sA, s0, s1]
        refine sy 3 38 rfl rfl ?_
        try simp only [Act.put, sA, s0, s1]
        refine sy 4 39 rfl rfl ?_
        try simp only [Act.put, sA, s0, s1]
        refine sy 5 40 rfl rfl ?_
        try simp only [Act.put, sA, s0, s1]
        refine sy 6 41 rfl rfl ?_
        try simp only [Act.put, sA, s0, s1]
        refine sy 7 42 rfl rfl ?_
        try simp only [Act.put, sA, s0, s1]
        refine sy 8 43 rfl rfl ?_
        try simp only [Act.put, sA, s0, s1]
        refine sy 9 44 rfl rfl ?_ (hy := by (intro w hSw; (try dsimp only at hSw); obtain ⟨q0, q1, q2, q3, q4, q5, q6, q7, q8⟩ := hSw; go_simp; try with_reducible rfl))
        try simp only [Act.put, sA, s0, s1]
        refine sy 10 45 rfl rfl ?_ (hy := by (intro w hSw; (try dsimp only at hSw); obtain ⟨q0, q1, q2, q3, q4, q5, q6, q7, q8⟩ := hSw; go_simp; try with_reducible rfl))
        try simp only [Act.put, sA, s0, s1]
        refine wpAnyH_ready (rs := [11]) (by kernel_rfl) (by simp) ?_
        refine AllReadyH.cons rfl (fun K hK => ?_) AllReadyH.nil
        replace hK := Lib.hid hK
        go_simp
        refine (evbydot_e wd x n s).mono ?_
        rintro r w6 ⟨rfl, h6⟩
        have C6 := Lib.hid h6
        clear h6 hHeld
        refine hK.out _ _ (HH.out w6 C6.out) (fun hHeld => ?_)
        clear hK K
        try simp only [Act.put, sA, s0, s1]
        refine sy 12 47 rfl rfl ?_
        try simp only [Act.put, sA, s0, s1]
        refine sy 13 48 rfl rfl ?_
        try simp only [Act.put, sA, s0, s1]
        refine sy 14 6 rfl rfl ?_
        try simp only [Act.put, sA, s0, s1]
        refine sy 15 7 rfl rfl ?_
        try simp only [Act.put, sA, s0, s1]
        refine wpAnyH_done (by kernel_rfl) ?_ _
        clear hHeld HH
        have CE := Lib.hid (C1.out.trans (HC.out.trans (CD.out.trans C6.out)))
        have LH := HI
        by_cases hz : cmpEd x n s = 0
        · have AN : inE xs n s = true := by rw [ANS.out, decide_eq_true hz]
          have dz : ((cmpEd x n s == 0) : Bool) = true := by simpa using hz
          clear ANS hz
          go_wp2
          go_ret2
          (first | exact ⟨i, by omega, LH.out.1, LH.out.2, by rw [AN]; first | rfl | (show Ending.returned (.tuple #[.int .i64 (i : Int), .bool (cmpEd x n s == 0)]) = _; rw [dz]), CE.out⟩ | exact ⟨i, by omega, LH.out.1, LH.out.2, by first | rfl | (rw [AN]; rfl), CE.out⟩ | exact ⟨i, by omega, LH.out.1, LH.out.2, by show Ending.returned (.tuple #[.int .i64 (i : Int), .bool (cmpEd x n s == 0)]) = _; rw [dz], CE.out⟩)
        · have AN : inE xs n s = false := by rw [ANS.out, decide_eq_false hz]
          have dz : ((cmpEd x n s == 0) : Bool) = false := by simpa using hz
          clear ANS hz
          go_wp2
          go_ret2
          (first | exact ⟨i, by omega, LH.out.1, LH.out.2, by rw [AN]; first | rfl | (show Ending.returned (.tuple #[.int .i64 (i : Int), .bool (cmpEd x n s == 0)]) = _; rw [dz]), CE.out⟩ | exact ⟨i, by omega, LH.out.1, LH.out.2, by first | rfl | (rw [AN]; rfl), CE.out⟩ | exact ⟨i, by omega, LH.out.1, LH.out.2, by show Ending.returned (.tuple #[.int .i64 (i : Int), .bool (cmpEd x n s == 0)]) = _; rw [dz], CE.out⟩)
      · have k1 : ¬ (i : Int) < (xs.length : Int) := by omega
        have k2 : decide ((i : Int) < (xs.length : Int)) = false := by simp; omega
        have k3 : decide (i < xs.length) = false := by simp; omega
        have ANS : Hid (inE xs n s = false) := Lib.hid (inE_no HNM.out HI.out.1 HI.out.2 (fun y hy => absurd ((List.getElem?_eq_some_iff.1 hy).1) hin))
        go_upto_region 8 with fail
        refine wp_region_held_drew (S := fun _ => True) (by kernel_rfl) trivial (fun hHeld => ?_)
        have CD := Lib.hid (Chg.refl [] wr).drew
        generalize wr.drew = wd at *
        clear i2
        refine sy 0 35 rfl rfl ?_ (hS := trivial)
        try simp only [Act.put, sA, s0, s1]
        refine sy 1 36 rfl rfl ?_ (hS := trivial)
        try simp only [Act.put, sA, s0, s1]
        refine sy 2 37 rfl rfl ?_ (hS := trivial)
        try simp only [Act.put, sA, s0, s1]
        refine sy 3 38 rfl rfl ?_ (hS := trivial)
        try simp only [Act.put, sA, s0, s1]
        refine sy 4 39 rfl rfl ?_ (hS := trivial)
        try simp only [Act.put, sA, s0, s1]
        refine sn 5 40 rfl rfl ?_ (hS := trivial)
        try simp only [Act.put, sA, s0, s1]
        refine sn 6 41 rfl rfl ?_ (hS := trivial)
        try simp only [Act.put, sA, s0, s1]
        refine sn 7 42 rfl rfl ?_ (hS := trivial)
        try simp only [Act.put, sA, s0, s1]
        refine sn 8 43 rfl rfl ?_ (hS := trivial)
        try simp only [Act.put, sA, s0, s1]
        refine sn 9 44 rfl rfl ?_ (hS := trivial)
        try simp only [Act.put, sA, s0, s1]
        refine sn 10 45 rfl rfl ?_ (hS := trivial)
        try simp only [Act.put, sA, s0, s1]
        refine sn 11 46 rfl rfl ?_ (hS := trivial)
        try simp only [Act.put, sA, s0, s1]
        refine sn 12 47 rfl rfl ?_ (hS := trivial)
        try simp only [Act.put, sA, s0, s1]
        refine sy 13 48 rfl rfl ?_ (hS := trivial)
        try simp only [Act.put, sA, s0, s1]
        refine sy 14 6 rfl rfl ?_ (hS := trivial)
        try simp only [Act.put, sA, s0, s1]
        refine sy 15 7 rfl rfl ?_ (hS := trivial)
        try simp only [Act.put, sA, s0, s1]
        refine wpAnyH_done (by kernel_rfl) ?_ _
        clear hHeld
        have CE := Lib.hid (C1.out.trans (HC.out.trans CD.out))
        have AN := ANS.out
        have LH := HI
        go_wp2
        go_ret2
        (first | exact ⟨i, by omega, LH.out.1, LH.out.2, by rw [AN]; first | rfl | (show Ending.returned (.tuple #[.int .i64 (i : Int), .bool (cmpEd x n s == 0)]) = _; rw [dz]), CE.out⟩ | exact ⟨i, by omega, LH.out.1, LH.out.2, by first | rfl | (rw [AN]; rfl), CE.out⟩ | exact ⟨i, by omega, LH.out.1, LH.out.2, by show Ending.returned (.tuple #[.int .i64 (i : Int), .bool (cmpEd x n s == 0)]) = _; rw [dz], CE.out⟩)
end
section
open Go.RowKit Go.Lib
set_option linter.unusedSimpArgs false
set_option linter.unusedVariables false
end
section
open Go.RowKit Go.Lib
set_option linter.unusedSimpArgs false
set_option linter.unusedVariables false


set_option maxRecDepth 100000 in
theorem next_none_c (w : World) (g : Nat) (h0 h1 h2 : Value) (B : Option Addr) (c : Nat) (hb : w.heap[g]? = some (.cells #[h0, h1, h2, .slice B 0 c] 182 (0, 0))) :
    Calls Tryz.prog 200 #[.pointer (some ⟨g, 0, none⟩)] w fun e w' => e = .returned (.tuple #[]) ∧ w'.heap[g]? = some (.cells #[.int .i64 201, .int .i64 0, .int .i64 0, .slice B 0 c] 182 (0, 0)) ∧ Chg [g] w w' := by
  have HB := Lib.hid hb
  clear hb
  go_enter Tryz.func200, Tryz.ntmps200
  have z0 := cell_of HB.out 0
  have z1 := cell_of HB.out 1
  have z2 := cell_of HB.out 2
  have z3 := cell_of HB.out 3
  have fz0 := free_of HB.out 0
  have fz1 := free_of HB.out 1
  have fz2 := free_of HB.out 2
  simp only [List.getElem?_toArray, List.getElem?_cons_succ, List.getElem?_cons_zero] at z0 z1 z2 z3
  have p0 := heap_setCell_same w g 0 _ _ (.int .i64 201) HB.out
  have p1 := heap_setCell_same (w.setCell ⟨g, 0, none⟩ (.int .i64 201)) g 1 _ _ (.int .i64 0) p0
  have p2 := heap_setCell_same ((w.setCell ⟨g, 0, none⟩ (.int .i64 201)).setCell ⟨g, 1, none⟩ (.int .i64 0)) g 2 _ _ (.int .i64 0) p1
  simp only [List.setIfInBounds_toArray, List.set_cons_zero, List.set_cons_succ] at p2
  have HP := Lib.hid p2
  have CP := Lib.hid ((((Chg.refl [g] w).setCell (p := ⟨g, 0, none⟩) (.inl (by simp)) (.int .i64 201)).setCell (p := ⟨g, 1, none⟩) (.inl (by simp)) (.int .i64 0)).setCell (p := ⟨g, 2, none⟩) (.inl (by simp)) (.int .i64 0))
  clear p0 p1 p2
  go_wp2
  refine bodyPost_ret (results_none rfl _ _ _) rfl ?_
  exact ⟨rfl, HP.out, CP.out⟩
set_option maxRecDepth 100000 in
set_option maxHeartbeats 4000000 in
theorem next_some_c (w : World) (g : Nat) (h0 h1 h2 : Value) (B : Option Addr) (c : Nat) (x : Sp) (r : List Sp) (hb : w.heap[g]? = some (.cells #[h0, h1, h2, .slice B (r.length + 1) c] 182 (0, 0))) (hr : RdK spanTy w B (r.length + 1) (x :: r)) (hn : r.length + 1 ≤ c ∧ c ≤ maxLen) (hB : ∀ a, B = some a → a.block ≠ g) :
    Calls Tryz.prog 200 #[.pointer (some ⟨g, 0, none⟩)] w fun e w' => e = .returned (.tuple #[]) ∧ ∃ B' c', w'.heap[g]? = some (.cells #[.int .i64 x.1, .int .i64 x.2.1, .int .i64 x.2.2, (.slice B' r.length c')] 182 (0, 0)) ∧ RdK spanTy w' B' r.length r ∧ (r.length ≤ c' ∧ c' ≤ maxLen) ∧ (∀ a, B' = some a → ∃ b, B = some b ∧ a.block = b.block) ∧ Chg [g] w w' := by
  obtain ⟨gB, oB, eB, _⟩ := hr.line (by omega)
  subst eB
  have HR := Lib.hid hr
  have HN := Lib.hid hn
  have NB := Lib.hid (hB ⟨gB, oB, none⟩ rfl)
  obtain ⟨y0, y1, y2⟩ := spanCells hr (j := 0) (x := x) rfl
  rw [Nat.zero_mul, Nat.add_zero] at y0 y1 y2
  have HB := Lib.hid hb
  have Y := Lib.hid (show w.cell? ⟨gB, oB, none⟩ = some (.int .i64 x.1) ∧ w.cell? ⟨gB, oB + 1, none⟩ = some (.int .i64 x.2.1) ∧ w.cell? ⟨gB, oB + 2, none⟩ = some (.int .i64 x.2.2) from ⟨y0, y1, y2⟩)
  clear hb hr hn y0 y1 y2 hB
  have n0 : (((r.length + 1 : Nat) : Int) == 0) = false := by simp; omega
  have n1 : (0 : Int) < ((r.length + 1 : Nat) : Int) := by omega
  have n2 : (1 : Int) ≤ ((r.length + 1 : Nat) : Int) := by omega
  have n3 : ((r.length + 1 : Nat) : Int) ≤ (c : Int) := by have := HN.out; omega
  have n5 : (1 : Int) ≤ (r.length : Int) + 1 := by omega
  have n4 : r.length + 1 - 1 = r.length := by omega
  have HT : Hid (RdK spanTy w (if c = 1 then some ⟨gB, oB, none⟩ else some ⟨gB, oB + 3, none⟩) r.length r) := Lib.hid (by
    split
    · have := HN.out
      have e : r = [] := List.eq_nil_of_length_eq_zero (by omega)
      subst e
      exact RdK.nil _ _
    · have q := HR.out.part 1 r.length (by omega)
      simpa [RowTy.k, spanTy] using q)
  go_enter Tryz.func200, Tryz.ntmps200
  have z3 := cell_of HB.out 3
  simp only [List.getElem?_toArray, List.getElem?_cons_succ, List.getElem?_cons_zero] at z3
  go_upto_region 2 with fail
  clear z3
  refine wp_region_held_drew (S := fun _ => True) (by kernel_rfl) trivial (fun hHeld => ?_)
  have CD := Lib.hid (Chg.refl [g] w).drew
  replace HB := Lib.hid (show w.drew.heap[g]? = some _ from HB.out)
  replace Y := Lib.hid (show w.drew.cell? ⟨gB, oB, none⟩ = some (.int .i64 x.1) ∧ w.drew.cell? ⟨gB, oB + 1, none⟩ = some (.int .i64 x.2.1) ∧ w.drew.cell? ⟨gB, oB + 2, none⟩ = some (.int .i64 x.2.2) from Y.out)
  replace HT := Lib.hid (show RdK spanTy w.drew _ r.length r from HT.out.chg (Chg.refl [] w).drew (by simp))
  generalize w.drew = wd at *
  generalize hAD : (if c = 1 then some ⟨gB, oB, none⟩ else some ⟨gB, oB + 3, none⟩ : Option Addr) = AD at *
  have AB : Hid (∀ a, AD = some a → a.block = gB) := Lib.hid (by intro a ha; rw [← hAD] at ha; split at ha <;> cases ha <;> rfl)
  refine sy 0 12 rfl rfl ?_ (hS := trivial)
  try simp only [Act.put, sA, s0, s1]
  refine sy 1 13 rfl rfl ?_ (hS := trivial)
  try simp only [Act.put, sA, s0, s1]
  refine sy 2 14 rfl rfl ?_ (hS := trivial)
  try simp only [Act.put, sA, s0, s1]
  refine sy 3 15 rfl rfl ?_ (hS := trivial)
  try simp only [Act.put, sA, s0, s1]
  refine sy 4 16 rfl rfl ?_ (hS := trivial)
  try simp only [Act.put, sA, s0, s1]
  refine sy 8 20 rfl rfl ?_ (hS := trivial)
  try simp only [Act.put, sA, s0, s1]
  refine sy 9 21 rfl rfl ?_ (hS := trivial)
  try simp only [Act.put, sA, s0, s1]
  refine sy 10 22 rfl rfl ?_ (hS := trivial)
  try simp only [Act.put, sA, s0, s1]
  refine wpAnyH_ready (rs := [5, 11]) (by kernel_rfl) (by simp) ?_
  refine AllReadyH.cons rfl (fun K hK => ?_) (AllReadyH.cons rfl (fun K hK => ?_) AllReadyH.nil)
  · skip
    replace hK := Lib.hid hK
    have z3 := cell_of HB.out 3
    simp only [List.getElem?_toArray, List.getElem?_cons_succ, List.getElem?_cons_zero] at z3
    go_simp
    clear z3 hHeld
    refine hK.out _ _ trivial (fun hHeld => ?_)
    clear hK K
    try simp only [Act.put, sA, s0, s1]
    refine sy 6 18 rfl rfl ?_ (hS := trivial)
    try simp only [Act.put, sA, s0, s1]
    refine wpAnyH_ready (rs := [7, 11]) (by kernel_rfl) (by simp) ?_
    refine AllReadyH.cons rfl (fun K hK => ?_) (AllReadyH.cons rfl (fun K hK => ?_) AllReadyH.nil)
    · skip
      replace hK := Lib.hid hK
      obtain ⟨y0, y1, y2⟩ := Y.out
      go_simp
      clear y0 y1 y2 hHeld
      refine hK.out _ _ trivial (fun hHeld => ?_)
      clear hK K
      try simp only [Act.put, sA, s0, s1]
      refine wpAnyH_ready (rs := [11]) (by kernel_rfl) (by simp) ?_
      refine AllReadyH.cons rfl (fun K hK => ?_) AllReadyH.nil
      replace hK := Lib.hid hK
      have z3 := cell_of HB.out 3
      simp only [List.getElem?_toArray, List.getElem?_cons_succ, List.getElem?_cons_zero] at z3
      go_simp
      clear z3 hHeld
      refine hK.out _ _ trivial (fun hHeld => ?_)
      clear hK K
      try simp only [Act.put, sA, s0, s1]
      refine sy 12 24 rfl rfl ?_ (hS := trivial)
      try simp only [Act.put, sA, s0, s1]
      refine sy 13 25 rfl rfl ?_ (hS := trivial)
      try simp only [Act.put, sA, s0, s1]
      refine sy 14 26 rfl rfl ?_ (hS := trivial)
      try simp only [Act.put, sA, s0, s1]
      refine wpAnyH_ready (rs := [15]) (by kernel_rfl) (by simp) ?_
      refine AllReadyH.cons rfl (fun K hK => ?_) AllReadyH.nil
      replace hK := Lib.hid hK
      have z0 := cell_of HB.out 0
      have z1 := cell_of HB.out 1
      have z2 := cell_of HB.out 2
      have fz0 := free_of HB.out 0
      have fz1 := free_of HB.out 1
      have fz2 := free_of HB.out 2
      simp only [List.getElem?_toArray, List.getElem?_cons_succ, List.getElem?_cons_zero] at z0 z1 z2
      have p0 := heap_setCell_same wd g 0 _ _ (.int .i64 x.1) HB.out
      have p1 := heap_setCell_same (wd.setCell ⟨g, 0, none⟩ (.int .i64 x.1)) g 1 _ _ (.int .i64 x.2.1) p0
      have p2 := heap_setCell_same ((wd.setCell ⟨g, 0, none⟩ (.int .i64 x.1)).setCell ⟨g, 1, none⟩ (.int .i64 x.2.1)) g 2 _ _ (.int .i64 x.2.2) p1
      simp only [List.setIfInBounds_toArray, List.set_cons_zero, List.set_cons_succ] at p2
      have HP := Lib.hid p2
      clear p0 p1 p2
      go_simp
      clear hHeld z0 fz0 z1 fz1 z2 fz2
      refine hK.out _ _ trivial (fun hHeld => ?_)
      clear hK K
      try simp only [Act.put, sA, s0, s1]
      refine sy 16 27 rfl rfl ?_ (hS := trivial)
      try simp only [Act.put, sA, s0, s1]
      refine sy 17 28 rfl rfl ?_ (hS := trivial)
      try simp only [Act.put, sA, s0, s1]
      refine wpAnyH_ready (rs := [18]) (by kernel_rfl) (by simp) ?_
      refine AllReadyH.cons rfl (fun K hK => ?_) AllReadyH.nil
      replace hK := Lib.hid hK
      have z3 := cell_of HP.out 3
      have fz3 := free_of HP.out 3
      simp only [List.getElem?_toArray, List.getElem?_cons_succ, List.getElem?_cons_zero] at z3
      go_simp
      clear hHeld z3 fz3
      refine hK.out _ _ trivial (fun hHeld => ?_)
      clear hK K
      try simp only [Act.put, sA, s0, s1]
      refine wpAnyH_done (by kernel_rfl) ?_ _
      have HQ := heap_setCell_same _ g 3 _ _ (.slice AD r.length (c - 1)) HP.out
      simp only [List.setIfInBounds_toArray, List.set_cons_zero, List.set_cons_succ] at HQ
      have CQ := Lib.hid (((((Chg.refl [g] wd).setCell (p := ⟨g, 0, none⟩) (.inl (by simp)) (.int .i64 x.1)).setCell (p := ⟨g, 1, none⟩) (.inl (by simp)) (.int .i64 x.2.1)).setCell (p := ⟨g, 2, none⟩) (.inl (by simp)) (.int .i64 x.2.2)).setCell (p := ⟨g, 3, none⟩) (.inl (by simp)) (.slice AD r.length (c - 1)))
      have HQ2 := Lib.hid HQ
      clear HQ
      go_wp2
      go_end0
      exact ⟨rfl, AD, c - 1, HQ2.out, HT.out.chg CQ.out (fun a ha => by rw [AB.out a ha]; simpa using NB.out), by have := HN.out; omega, fun a ha => by (first | exact ⟨_, rfl, AB.out a ha⟩ | exact AB.out a ha | simpa using AB.out a ha), CD.out.trans CQ.out⟩
    · skip
      replace hK := Lib.hid hK
      have z3 := cell_of HB.out 3
      simp only [List.getElem?_toArray, List.getElem?_cons_succ, List.getElem?_cons_zero] at z3
      go_simp
      clear z3 hHeld
      refine hK.out _ _ trivial (fun hHeld => ?_)
      clear hK K
      try simp only [Act.put, sA, s0, s1]
      refine sy 12 24 rfl rfl ?_ (hS := trivial)
      try simp only [Act.put, sA, s0, s1]
      refine wpAnyH_ready (rs := [7]) (by kernel_rfl) (by simp) ?_
      refine AllReadyH.cons rfl (fun K hK => ?_) AllReadyH.nil
      replace hK := Lib.hid hK
      obtain ⟨y0, y1, y2⟩ := Y.out
      go_simp
      clear y0 y1 y2 hHeld
      refine hK.out _ _ trivial (fun hHeld => ?_)
      clear hK K
      try simp only [Act.put, sA, s0, s1]
      refine sy 13 25 rfl rfl ?_ (hS := trivial)
      try simp only [Act.put, sA, s0, s1]
      refine sy 14 26 rfl rfl ?_ (hS := trivial)
      try simp only [Act.put, sA, s0, s1]
      refine wpAnyH_ready (rs := [15]) (by kernel_rfl) (by simp) ?_
      refine AllReadyH.cons rfl (fun K hK => ?_) AllReadyH.nil
      replace hK := Lib.hid hK
      have z0 := cell_of HB.out 0
      have z1 := cell_of HB.out 1
      have z2 := cell_of HB.out 2
      have fz0 := free_of HB.out 0
      have fz1 := free_of HB.out 1
      have fz2 := free_of HB.out 2
      simp only [List.getElem?_toArray, List.getElem?_cons_succ, List.getElem?_cons_zero] at z0 z1 z2
      have p0 := heap_setCell_same wd g 0 _ _ (.int .i64 x.1) HB.out
      have p1 := heap_setCell_same (wd.setCell ⟨g, 0, none⟩ (.int .i64 x.1)) g 1 _ _ (.int .i64 x.2.1) p0
      have p2 := heap_setCell_same ((wd.setCell ⟨g, 0, none⟩ (.int .i64 x.1)).setCell ⟨g, 1, none⟩ (.int .i64 x.2.1)) g 2 _ _ (.int .i64 x.2.2) p1
      simp only [List.setIfInBounds_toArray, List.set_cons_zero, List.set_cons_succ] at p2
      have HP := Lib.hid p2
      clear p0 p1 p2
      go_simp
      clear hHeld z0 fz0 z1 fz1 z2 fz2
      refine hK.out _ _ trivial (fun hHeld => ?_)
      clear hK K
      try simp only [Act.put, sA, s0, s1]
      refine sy 16 27 rfl rfl ?_ (hS := trivial)
      try simp only [Act.put, sA, s0, s1]
      refine sy 17 28 rfl rfl ?_ (hS := trivial)
      try simp only [Act.put, sA, s0, s1]
      refine wpAnyH_ready (rs := [18]) (by kernel_rfl) (by simp) ?_
      refine AllReadyH.cons rfl (fun K hK => ?_) AllReadyH.nil
      replace hK := Lib.hid hK
      have z3 := cell_of HP.out 3
      have fz3 := free_of HP.out 3
      simp only [List.getElem?_toArray, List.getElem?_cons_succ, List.getElem?_cons_zero] at z3
      go_simp
      clear hHeld z3 fz3
      refine hK.out _ _ trivial (fun hHeld => ?_)
      clear hK K
      try simp only [Act.put, sA, s0, s1]
      refine wpAnyH_done (by kernel_rfl) ?_ _
      have HQ := heap_setCell_same _ g 3 _ _ (.slice AD r.length (c - 1)) HP.out
      simp only [List.setIfInBounds_toArray, List.set_cons_zero, List.set_cons_succ] at HQ
      have CQ := Lib.hid (((((Chg.refl [g] wd).setCell (p := ⟨g, 0, none⟩) (.inl (by simp)) (.int .i64 x.1)).setCell (p := ⟨g, 1, none⟩) (.inl (by simp)) (.int .i64 x.2.1)).setCell (p := ⟨g, 2, none⟩) (.inl (by simp)) (.int .i64 x.2.2)).setCell (p := ⟨g, 3, none⟩) (.inl (by simp)) (.slice AD r.length (c - 1)))
      have HQ2 := Lib.hid HQ
      clear HQ
      go_wp2
      go_end0
      exact ⟨rfl, AD, c - 1, HQ2.out, HT.out.chg CQ.out (fun a ha => by rw [AB.out a ha]; simpa using NB.out), by have := HN.out; omega, fun a ha => by (first | exact ⟨_, rfl, AB.out a ha⟩ | exact AB.out a ha | simpa using AB.out a ha), CD.out.trans CQ.out⟩
  · skip
    replace hK := Lib.hid hK
    have z3 := cell_of HB.out 3
    simp only [List.getElem?_toArray, List.getElem?_cons_succ, List.getElem?_cons_zero] at z3
    go_simp
    clear z3 hHeld
    refine hK.out _ _ trivial (fun hHeld => ?_)
    clear hK K
    try simp only [Act.put, sA, s0, s1]
    refine sy 12 24 rfl rfl ?_ (hS := trivial)
    try simp only [Act.put, sA, s0, s1]
    refine wpAnyH_ready (rs := [5]) (by kernel_rfl) (by simp) ?_
    refine AllReadyH.cons rfl (fun K hK => ?_) AllReadyH.nil
    replace hK := Lib.hid hK
    have z3 := cell_of HB.out 3
    simp only [List.getElem?_toArray, List.getElem?_cons_succ, List.getElem?_cons_zero] at z3
    go_simp
    clear z3 hHeld
    refine hK.out _ _ trivial (fun hHeld => ?_)
    clear hK K
    try simp only [Act.put, sA, s0, s1]
    refine sy 6 18 rfl rfl ?_ (hS := trivial)
    try simp only [Act.put, sA, s0, s1]
    refine wpAnyH_ready (rs := [7]) (by kernel_rfl) (by simp) ?_
    refine AllReadyH.cons rfl (fun K hK => ?_) AllReadyH.nil
    replace hK := Lib.hid hK
    obtain ⟨y0, y1, y2⟩ := Y.out
    go_simp
    clear y0 y1 y2 hHeld
    refine hK.out _ _ trivial (fun hHeld => ?_)
    clear hK K
    try simp only [Act.put, sA, s0, s1]
    refine sy 13 25 rfl rfl ?_ (hS := trivial)
    try simp only [Act.put, sA, s0, s1]
    refine sy 14 26 rfl rfl ?_ (hS := trivial)
    try simp only [Act.put, sA, s0, s1]
    refine wpAnyH_ready (rs := [15]) (by kernel_rfl) (by simp) ?_
    refine AllReadyH.cons rfl (fun K hK => ?_) AllReadyH.nil
    replace hK := Lib.hid hK
    have z0 := cell_of HB.out 0
    have z1 := cell_of HB.out 1
    have z2 := cell_of HB.out 2
    have fz0 := free_of HB.out 0
    have fz1 := free_of HB.out 1
    have fz2 := free_of HB.out 2
    simp only [List.getElem?_toArray, List.getElem?_cons_succ, List.getElem?_cons_zero] at z0 z1 z2
    have p0 := heap_setCell_same wd g 0 _ _ (.int .i64 x.1) HB.out
    have p1 := heap_setCell_same (wd.setCell ⟨g, 0, none⟩ (.int .i64 x.1)) g 1 _ _ (.int .i64 x.2.1) p0
    have p2 := heap_setCell_same ((wd.setCell ⟨g, 0, none⟩ (.int .i64 x.1)).setCell ⟨g, 1, none⟩ (.int .i64 x.2.1)) g 2 _ _ (.int .i64 x.2.2) p1
    simp only [List.setIfInBounds_toArray, List.set_cons_zero, List.set_cons_succ] at p2
    have HP := Lib.hid p2
    clear p0 p1 p2
    go_simp
    clear hHeld z0 fz0 z1 fz1 z2 fz2
    refine hK.out _ _ trivial (fun hHeld => ?_)
    clear hK K
    try simp only [Act.put, sA, s0, s1]
    refine sy 16 27 rfl rfl ?_ (hS := trivial)
    try simp only [Act.put, sA, s0, s1]
    refine sy 17 28 rfl rfl ?_ (hS := trivial)
    try simp only [Act.put, sA, s0, s1]
    refine wpAnyH_ready (rs := [18]) (by kernel_rfl) (by simp) ?_
    refine AllReadyH.cons rfl (fun K hK => ?_) AllReadyH.nil
    replace hK := Lib.hid hK
    have z3 := cell_of HP.out 3
    have fz3 := free_of HP.out 3
    simp only [List.getElem?_toArray, List.getElem?_cons_succ, List.getElem?_cons_zero] at z3
    go_simp
    clear hHeld z3 fz3
    refine hK.out _ _ trivial (fun hHeld => ?_)
    clear hK K
    try simp only [Act.put, sA, s0, s1]
    refine wpAnyH_done (by kernel_rfl) ?_ _
    have HQ := heap_setCell_same _ g 3 _ _ (.slice AD r.length (c - 1)) HP.out
    simp only [List.setIfInBounds_toArray, List.set_cons_zero, List.set_cons_succ] at HQ
    have CQ := Lib.hid (((((Chg.refl [g] wd).setCell (p := ⟨g, 0, none⟩) (.inl (by simp)) (.int .i64 x.1)).setCell (p := ⟨g, 1, none⟩) (.inl (by simp)) (.int .i64 x.2.1)).setCell (p := ⟨g, 2, none⟩) (.inl (by simp)) (.int .i64 x.2.2)).setCell (p := ⟨g, 3, none⟩) (.inl (by simp)) (.slice AD r.length (c - 1)))
    have HQ2 := Lib.hid HQ
    clear HQ
    go_wp2
    go_end0
    exact ⟨rfl, AD, c - 1, HQ2.out, HT.out.chg CQ.out (fun a ha => by rw [AB.out a ha]; simpa using NB.out), by have := HN.out; omega, fun a ha => by (first | exact ⟨_, rfl, AB.out a ha⟩ | exact AB.out a ha | simpa using AB.out a ha), CD.out.trans CQ.out⟩
end
section
open Go.RowKit Go.Lib
set_option linter.unusedSimpArgs false
set_option linter.unusedVariables false


set_option maxRecDepth 100000 in
set_option maxHeartbeats 4000000 in
theorem begin_anyw (w : World) (B : Option Addr) (c : Nat) (l : List Sp) (hr : RdK spanTy w B l.length l) (hn : l.length ≤ c ∧ c ≤ maxLen) (hold : l = [] ∨ ∀ a, B = some a → a.block < w.heap.size) :
    Calls Tryz.prog 179 #[.slice B l.length c] w fun e w' => ∃ B' c', e = .returned (.agg #[.int .i64 (hdP l).1, .int .i64 (hdP l).2.1, .int .i64 (hdP l).2.2, .slice B' l.tail.length c']) ∧ RdK spanTy w' B' l.tail.length l.tail ∧ (l.tail.length ≤ c' ∧ c' ≤ maxLen) ∧ (∀ a, B' = some a → ∃ b, B = some b ∧ a.block = b.block) ∧ Chg [] w w' := by
  have HR := Lib.hid hr
  have HN := Lib.hid hn
  clear hr hn
  obtain ⟨w1, hw1, c1, b1, b2⟩ := news2 w (.cells #[.int .i64 0, .int .i64 0, .int .i64 0, .slice none 0 0] 182) (.cells #[.int .i64 0, .int .i64 0, .int .i64 0, .slice B l.length c] 182)
  have W1 := Lib.hid hw1
  have C1 := Lib.hid c1
  have B1 := Lib.hid b1
  have B2 := Lib.hid b2
  have L1 := Lib.hid (lt_of_heap b2)
  replace HR := Lib.hid (HR.out.chg c1 (by simp))
  have OLD := Lib.hid hold
  clear hw1 c1 b1 b2 hold
  go_enter Tryz.func179, Tryz.ntmps179
  go_wp2_with fail
  rw [← W1.out]
  have S1 : Hid (w.heap.size + 1 < w1.heap.size) := L1
  generalize hg0 : w.heap.size = g0 at *
  clear W1 L1
  have key : Calls Tryz.prog 200 #[.pointer (some ⟨g0 + 1, 0, none⟩)] w1 fun e w' => e = .returned (.tuple #[]) ∧ ∃ B' c', w'.heap[g0 + 1]? = some (.cells #[.int .i64 (hdP l).1, .int .i64 (hdP l).2.1, .int .i64 (hdP l).2.2, .slice B' l.tail.length c'] 182 (0, 0)) ∧ RdK spanTy w' B' l.tail.length l.tail ∧ (l.tail.length ≤ c' ∧ c' ≤ maxLen) ∧ (∀ a, B' = some a → ∃ b, B = some b ∧ a.block = b.block) ∧ Chg [g0 + 1] w1 w' := by
    cases l with
    | nil =>
      refine (next_none_c w1 (g0 + 1) _ _ _ B c B2.out).mono ?_
      rintro e w' ⟨rfl, h1, h2⟩
      exact ⟨rfl, B, c, h1, RdK.nil _ _, ⟨Nat.zero_le _, HN.out.2⟩, fun a ha => ⟨a, ha, rfl⟩, h2⟩
    | cons x r =>
      refine (next_some_c w1 (g0 + 1) _ _ _ B c x r B2.out HR.out HN.out (fun a ha => by have := OLD.out.resolve_left (by simp) a ha; omega)).mono ?_
      rintro e w' ⟨rfl, B2, c2, h1, h2, h3, h4, h5⟩
      exact ⟨rfl, B2, c2, h1, h2, h3, h4, h5⟩
  refine key.mono ?_
  rintro e w2 ⟨rfl, B', c', h1, h2, h3, h4, h5⟩
  have HB := Lib.hid h1
  have HQ := Lib.hid h2
  have H3 := Lib.hid h3
  have H4 := Lib.hid h4
  have C2 := Lib.hid h5
  replace B1 := Lib.hid (h5.at_ B1.out (by simp))
  clear h1 h2 h3 h4 h5 key
  generalize hhd : hdP l = hd at *
  generalize htl : l.tail = tl at *
  have HHD := Lib.hid hhd
  have HTL := Lib.hid htl
  clear hhd htl
  have y0 := cell_of HB.out 0
  have y1 := cell_of HB.out 1
  have y2 := cell_of HB.out 2
  have y3 := cell_of HB.out 3
  simp only [List.getElem?_toArray, List.getElem?_cons_succ, List.getElem?_cons_zero] at y0 y1 y2 y3
  have z0 := cell_of B1.out 0
  have z1 := cell_of B1.out 1
  have z2 := cell_of B1.out 2
  have z3 := cell_of B1.out 3
  have fz0 := free_of B1.out 0
  have fz1 := free_of B1.out 1
  have fz2 := free_of B1.out 2
  have fz3 := free_of B1.out 3
  simp only [List.getElem?_toArray, List.getElem?_cons_succ, List.getElem?_cons_zero] at z0 z1 z2 z3
  generalize hg1 : g0 + 1 = g1 at *
  have p0 := heap_setCell_same w2 g0 0 _ _ (.int .i64 hd.1) B1.out
  have p1 := heap_setCell_same (w2.setCell ⟨g0, 0, none⟩ (.int .i64 hd.1)) g0 1 _ _ (.int .i64 hd.2.1) p0
  have p2 := heap_setCell_same ((w2.setCell ⟨g0, 0, none⟩ (.int .i64 hd.1)).setCell ⟨g0, 1, none⟩ (.int .i64 hd.2.1)) g0 2 _ _ (.int .i64 hd.2.2) p1
  have p3 := heap_setCell_same (((w2.setCell ⟨g0, 0, none⟩ (.int .i64 hd.1)).setCell ⟨g0, 1, none⟩ (.int .i64 hd.2.1)).setCell ⟨g0, 2, none⟩ (.int .i64 hd.2.2)) g0 3 _ _ ((.slice B' tl.length c')) p2
  simp only [List.setIfInBounds_toArray, List.set_cons_zero, List.set_cons_succ] at p3
  have HP := Lib.hid p3
  have CP := Lib.hid (((((Chg.refl [g0] w2).setCell (p := ⟨g0, 0, none⟩) (.inl (by simp)) (.int .i64 hd.1)).setCell (p := ⟨g0, 1, none⟩) (.inl (by simp)) (.int .i64 hd.2.1)).setCell (p := ⟨g0, 2, none⟩) (.inl (by simp)) (.int .i64 hd.2.2)).setCell (p := ⟨g0, 3, none⟩) (.inl (by simp)) ((.slice B' tl.length c')))
  clear p0 p1 p2 p3
  go_wp2
  generalize ((((w2.setCell ⟨g0, 0, none⟩ (.int .i64 hd.1)).setCell ⟨g0, 1, none⟩ (.int .i64 hd.2.1)).setCell ⟨g0, 2, none⟩ (.int .i64 hd.2.2)).setCell ⟨g0, 3, none⟩ ((.slice B' tl.length c'))) = wf at *
  have q0 := cell_of HP.out 0
  have q1 := cell_of HP.out 1
  have q2 := cell_of HP.out 2
  have q3 := cell_of HP.out 3
  simp only [List.getElem?_toArray, List.getElem?_cons_succ, List.getElem?_cons_zero] at q0 q1 q2 q3
  refine bodyPost_ret (v := .agg #[.int .i64 hd.1, .int .i64 hd.2.1, .int .i64 hd.2.2, .slice B' tl.length c']) (by simp [results, Tryz.results179, go_sem, q0, q1, q2, q3]) rfl ?_
  have e1 := HHD.out
  have e2 := HTL.out
  subst e1
  subst e2
  refine ⟨B', c', rfl, (by
    rcases OLD.out with q | q
    · subst q; exact RdK.nil _ _
    · exact HQ.out.chg CP.out (fun a ha => by obtain ⟨b, hb, e⟩ := H4.out a ha; have := q b hb; simp; omega)), H3.out, H4.out, ?_⟩
  exact (C1.out.trans' C2.out (fun z hz => by simp at hz; subst hz; exact .inr (by omega))).trans' CP.out (fun z hz => by simp at hz; subst hz; exact .inr (by omega))
end
end Go.Proofs.YtfdaclifapfmdaaGreatDoor
