/- The document's Check of a past. The document's Has, Count, Last. The document's Check of a dot, as the past sees it. The document's without. Sets of dots as lists of spans: how many dots they have, what is the last one, what is joined, left, within. Plain. The document's Of. A row that the library has sorted, or cleared from some place on. Package dot: Sort: a copy, the library's sort, what is told twice left out. slices.Clone, slices.Compact over dots; dot.Sort. dot.Sort: each dot once, in order. What is told once, in order: there is one such list. The document's Sort: one by one, each put where it belongs: no memory here. -/
import Derived.Test.YtgafkphhnlifiaaZphb
import Derived.Deep.Cut
import Derived.Deep.QuietTactic
import Derived.BigQuiet
import Derived.Test.YtgafkphhnlifiaaZphg
import Derived.RegionTactic
import Derived.Test.YtgafkphhnlifiaaZphh
import Derived.Test.YtgafkphhnlifiaaZphe
import Derived.Deep.RegionHeld3
import Derived.Test.YtgafkphhnlifiaaZpha
import Derived.Shelf.SlSortCmp.NoneTotal
import Derived.Lib.SlicesCompact
import Derived.Lib.SliceRun
import Derived.Test.YtgafkphhnlifiaaShelf
namespace Go.Proofs.Ytgafkphhnlifiaa
section
open Go.RowKit Go.Lib
set_option linter.unusedSimpArgs false
set_option linter.unusedVariables false
end
section
open Go.RowKit Go.Lib
set_option linter.unusedSimpArgs false
set_option linter.unusedVariables false


/-- The document's: the greatest of a node's ends. -/
def lastM (node : Int) (xs : List Sp) : Int := xs.foldl (fun n x => if x.1 = node then max n x.2.2 else n) 0
theorem lastM_take {node : Int} {xs : List Sp} {k : Nat} {x : Sp} (hx : xs[k]? = some x) : lastM node (xs.take (k + 1)) = if x.1 = node then max (lastM node (xs.take k)) x.2.2 else lastM node (xs.take k) := by
  rw [List.take_add_one, hx]; simp [lastM]
theorem last_same (node : Int) : ∀ (k : Nat) (xs : List Sp), WfC xs → lastM node (xs.take k) = lastL node (xs.take k) ∧ (lastL node (xs.take k) = 0 ∨ ∃ y ∈ xs.take k, y.1 = node ∧ y.2.2 = lastL node (xs.take k))
  | 0, xs, _ => by simp [lastM, lastL]
  | k + 1, xs, h => by
    obtain ⟨a, b⟩ := last_same node k xs h
    by_cases hk : k < xs.length
    · have hx := List.getElem?_eq_getElem hk
      have e1 : lastL node (xs.take (k + 1)) = if xs[k].1 = node then xs[k].2.2 else lastL node (xs.take k) := by rw [List.take_add_one, hx]; exact last_snoc _ _ _
      rw [lastM_take hx, e1, a]
      have mem : ∀ y ∈ xs.take k, y ∈ xs.take (k + 1) := fun y hy => by rw [List.take_add_one]; exact List.mem_append_left _ hy
      split
      · rename_i hn
        have bx := h.2 xs[k] (List.getElem_mem hk)
        have ox := h.1.1 xs[k] (List.getElem_mem hk)
        unfold SpOk at ox
        have le : lastL node (xs.take k) ≤ xs[k].2.2 := by
          rcases b with e | ⟨y, hy, hy1, hy2⟩
          · rw [e]; omega
          · obtain ⟨q, hq, rfl⟩ := List.getElem_of_mem hy
            rw [List.length_take] at hq
            rw [List.getElem_take] at hy1 hy2
            have hap := List.pairwise_iff_getElem.1 h.1.2 q k (by omega) hk (by omega)
            have oy := h.1.1 xs[q] (List.getElem_mem (by omega))
            rw [← hy2]
            unfold Ap SpOk at *
            omega
        exact ⟨by omega, .inr ⟨xs[k], List.mem_of_getElem? (i := k) (by rw [List.getElem?_take, if_pos (Nat.lt_succ_self k)]; exact hx), hn, rfl⟩⟩
      · refine ⟨rfl, ?_⟩
        rcases b with e | ⟨y, hy, hy1, hy2⟩
        · exact .inl e
        · exact .inr ⟨y, mem y hy, hy1, hy2⟩
    · rw [List.take_of_length_le (by omega : xs.length ≤ k + 1), ← List.take_of_length_le (by omega : xs.length ≤ k)]
      exact ⟨a, b⟩
theorem last_all (node : Int) {xs : List Sp} (h : WfC xs) : lastM node xs = lastL node xs := by
  have := (last_same node xs.length xs h).1
  rwa [List.take_length] at this
end
section
open Go.RowKit Go.Lib
set_option linter.unusedSimpArgs false
set_option linter.unusedVariables false


def FineQ (n s : Int) : Prop := 1 ≤ n ∧ n ≤ 200 ∧ 1 ≤ s ∧ s ≤ 2147483647
instance (n s : Int) : Decidable (FineQ n s) := by unfold FineQ; exact inferInstance
end
section
open Go.RowKit Go.Lib
set_option linter.unusedSimpArgs false
set_option linter.unusedVariables false

theorem wi_len (x y : Sp) : (wiP x y).length ≤ 2 := by
  unfold wiP
  split
  · simp
  · split <;> split <;> simp
theorem without_len {x : Sp} (hx : SpOk x) : ∀ {l : List Sp}, Norm l → (withoutP l x).length ≤ l.length + 1
  | [], _ => by simp [withoutP]
  | y :: l, h => by
    have hl : Norm l := ⟨fun z hz => h.1 z (by simp [hz]), (List.pairwise_cons.1 h.2).2⟩
    have ih := without_len hx hl
    have ap := (List.pairwise_cons.1 h.2).1
    have e : withoutP (y :: l) x = wiP x y ++ withoutP l x := by simp [withoutP]
    rw [e, List.length_append, List.length_cons]
    by_cases h2 : y.1 = x.1 ∧ y.2.1 < x.2.1 ∧ x.2.2 < y.2.2
    · have same : ∀ m : List Sp, (∀ z ∈ m, Ap y z) → withoutP m x = m := by
        intro m
        induction m with
        | nil => intro _; rfl
        | cons z m ih2 =>
          intro hm
          have hz := hm z (by simp)
          have q : wiP x z = [z] := by unfold wiP; rw [if_pos]; unfold Ap at hz; unfold SpOk at hx; omega
          show wiP x z ++ withoutP m x = z :: m
          rw [q, ih2 (fun u hu => hm u (by simp [hu]))]; rfl
      rw [same l ap]
      have := wi_len x y
      omega
    · have : (wiP x y).length ≤ 1 := by
        unfold wiP
        split
        · simp
        · split <;> split <;> simp <;> omega
      omega
end
section
set_option linter.unusedSimpArgs false
set_option linter.unusedVariables false

def expS (x : Sp) : List (Int × Int) := (List.range (x.2.2 - x.2.1 + 1).toNat).map (fun (i : Nat) => (x.1, x.2.1 + (i : Int)))
def expL (xs : List Sp) : List (Int × Int) := xs.flatMap expS
theorem exp_mem1 (x : Sp) (n s : Int) : (n, s) ∈ expS x ↔ InS x n s := by
  unfold expS InS
  simp only [List.mem_map, List.mem_range, Prod.mk.injEq]
  constructor
  · rintro ⟨i, hi, h1, h2⟩
    omega
  · rintro ⟨h1, h2, h3⟩
    exact ⟨(s - x.2.1).toNat, by omega, h1, by omega⟩
theorem exp_mem (xs : List Sp) (n s : Int) : (n, s) ∈ expL xs ↔ Mem xs n s := by
  unfold expL Mem
  simp only [List.mem_flatMap, exp_mem1]
theorem exp_cons (x : Sp) (xs : List Sp) : expL (x :: xs) = expS x ++ expL xs := by simp [expL]
theorem exp_nodup : ∀ {xs : List Sp}, Norm xs → (expL xs).Nodup
  | [], _ => by simp [expL]
  | x :: xs, h => by
    rw [exp_cons]
    refine List.nodup_append.2 ⟨?_, exp_nodup h.tail, ?_⟩
    · unfold expS
      refine List.pairwise_map.2 (List.nodup_range.imp (fun {a b} q e => q ?_))
      injection e with e1 e2
      omega
    · rintro ⟨n, s⟩ ha ⟨n', s'⟩ hb e
      cases e
      exact h.out ((exp_mem1 x n s).1 ha) ((exp_mem xs n s).1 hb)
theorem cnt_from : ∀ (xs : List Sp) (k : Int), (∀ x ∈ xs, SpOk x) → xs.foldl (fun n x => n + x.2.2 - x.2.1 + 1) k = k + ((expL xs).length : Int)
  | [], k, _ => by simp [expL]
  | x :: xs, k, h => by
    rw [List.foldl_cons, cnt_from xs _ (fun y hy => h y (by simp [hy])), exp_cons, List.length_append]
    have e : (expS x).length = (x.2.2 - x.2.1 + 1).toNat := by simp [expS]
    have o := h x (by simp)
    unfold SpOk at o
    omega
theorem cnt_exp {xs : List Sp} (h : ∀ x ∈ xs, SpOk x) : cntL xs = ((expL xs).length : Int) := by
  unfold cntL
  rw [cnt_from xs 0 h]
  omega
theorem cnt_dots {xs : List Sp} {l : List (Int × Int)} (h : Norm xs) (hl : l.Nodup) (e : ∀ n s, Mem xs n s ↔ (n, s) ∈ l) : cntL xs = (l.length : Int) := by
  rw [cnt_exp h.1]
  have p := (List.perm_ext_iff_of_nodup (exp_nodup h) hl).2 (fun ⟨n, s⟩ => (exp_mem xs n s).trans (e n s))
  rw [p.length_eq]
theorem cnt_union {a b j : List Sp} (ha : Norm a) (hb : Norm b) (hj : Norm j) (d : ∀ n s, Mem a n s → ¬ Mem b n s) (e : ∀ n s, Mem j n s ↔ Mem a n s ∨ Mem b n s) : cntL a + cntL b = cntL j := by
  rw [cnt_dots (l := expL a ++ expL b) hj (List.nodup_append.2 ⟨exp_nodup ha, exp_nodup hb, ?_⟩) (fun n s => ?_), cnt_exp ha.1, cnt_exp hb.1, List.length_append]
  · omega
  · rintro ⟨n, s⟩ h1 ⟨n', s'⟩ h2 e
    cases e
    exact d n s ((exp_mem a n s).1 h1) ((exp_mem b n s).1 h2)
  · rw [List.mem_append, exp_mem, exp_mem]
    exact e n s
theorem lastM_from (node : Int) : ∀ (xs : List Sp) (k : Int), k ≤ xs.foldl (fun n x => if x.1 = node then max n x.2.2 else n) k ∧ ∀ x ∈ xs, x.1 = node → x.2.2 ≤ xs.foldl (fun n x => if x.1 = node then max n x.2.2 else n) k
  | [], k => ⟨Int.le_refl _, by simp⟩
  | x :: xs, k => by
    obtain ⟨h1, h2⟩ := lastM_from node xs (if x.1 = node then max k x.2.2 else k)
    rw [List.foldl_cons]
    by_cases q : x.1 = node
    · rw [if_pos q] at h1 h2 ⊢
      refine ⟨by omega, fun y hy e => ?_⟩
      rcases List.mem_cons.1 hy with rfl | hy
      · omega
      · exact h2 y hy e
    · rw [if_neg q] at h1 h2 ⊢
      refine ⟨by omega, fun y hy e => ?_⟩
      rcases List.mem_cons.1 hy with rfl | hy
      · exact absurd e q
      · exact h2 y hy e
theorem last_ge {xs : List Sp} (h : WfC xs) {n s : Int} (hm : Mem xs n s) : s ≤ lastL n xs := by
  rw [← last_all n h]
  obtain ⟨x, hx, e, _, l⟩ := hm
  exact Int.le_trans l ((lastM_from n xs 0).2 x hx e)
theorem wf_mem {xs : List Sp} (h : WfC xs) {n s : Int} (hm : Mem xs n s) : 1 ≤ n ∧ n ≤ 200 ∧ 1 ≤ s ∧ s ≤ 2147483647 := by
  obtain ⟨x, hx, e, l, r⟩ := hm
  have := h.2 x hx
  omega
theorem wf_sub {m : List Sp} (h : Norm m) (hb : ∀ n s, Mem m n s → 1 ≤ n ∧ n ≤ 200 ∧ 1 ≤ s ∧ s ≤ 2147483647) : WfC m :=
  ⟨h, fun x hx => by
    have o := h.1 x hx
    unfold SpOk at o
    have a := hb x.1 x.2.1 ⟨x, hx, rfl, Int.le_refl _, o⟩
    have b := hb x.1 x.2.2 ⟨x, hx, rfl, o, Int.le_refl _⟩
    omega⟩
theorem push_len (out : List Sp) (z : Sp) : (pushP out z).length ≤ out.length + 1 := by
  unfold pushP
  split <;> (try split) <;> simp <;> omega
theorem fold_len : ∀ (zs out : List Sp), (zs.foldl pushP out).length ≤ out.length + zs.length
  | [], out => by simp
  | z :: zs, out => by
    have h1 := fold_len zs (pushP out z)
    have h2 := push_len out z
    rw [List.foldl_cons, List.length_cons]
    omega
theorem tidy_len (l : List Sp) : (tidyS l).length ≤ l.length := by
  have := fold_len (riseS l) []
  rw [(rise_props l).2.2] at this
  simpa [tidyS] using this
theorem withouts_len : ∀ (b a : List Sp), (∀ x ∈ b, SpOk x) → Norm a → (b.foldl withoutP a).length ≤ a.length + b.length
  | [], a, _, _ => by simp
  | x :: b, a, hb, ha => by
    have hx := hb x (by simp)
    have h1 := withouts_len b (withoutP a x) (fun y hy => hb y (by simp [hy])) (without_norm hx ha).1
    have h2 := without_len hx ha
    rw [List.foldl_cons, List.length_cons]
    omega
theorem bound_le {l : List Sp} (h : l.length ≤ 4000) : boundP l = (0, l) := by unfold boundP; rw [if_neg (by omega)]
/-- What is joined of two short pasts. -/
theorem join_ok {a b : List Sp} (ha : chkS a = 0) (hb : chkS b = 0) (hl : a.length + b.length ≤ 4000) : joinE a b = (0, tidyS (a ++ b)) ∧ chkS (tidyS (a ++ b)) = 0 ∧ (tidyS (a ++ b)).length ≤ a.length + b.length ∧ ∀ n s, Mem (tidyS (a ++ b)) n s ↔ Mem a n s ∨ Mem b n s := by
  have wa := (wf_of_chk ha).1
  have wb := (wf_of_chk hb).1
  have t := tidy_norm (l := a ++ b) (fun x hx => by
    rcases List.mem_append.1 hx with q | q
    · exact wa.1.1 x q
    · exact wb.1.1 x q)
  have tl := tidy_len (a ++ b)
  rw [List.length_append] at tl
  have tm : ∀ n s, Mem (tidyS (a ++ b)) n s ↔ Mem a n s ∨ Mem b n s := fun n s => (t.2 n s).trans mem_append
  have wt : WfC (tidyS (a ++ b)) := wf_sub t.1 (fun n s h => by
    rcases (tm n s).1 h with q | q
    · exact wf_mem wa q
    · exact wf_mem wb q)
  refine ⟨?_, chk_of_wf wt (by omega), tl, tm⟩
  unfold joinE
  rw [if_pos ⟨ha, hb⟩, bound_le (by omega)]
theorem minus_ok {a b : List Sp} (ha : chkS a = 0) (hb : chkS b = 0) (hl : a.length + b.length ≤ 4000) : minusE a b = (0, b.foldl withoutP a) ∧ chkS (b.foldl withoutP a) = 0 ∧ (b.foldl withoutP a).length ≤ a.length + b.length ∧ ∀ n s, Mem (b.foldl withoutP a) n s ↔ Mem a n s ∧ ¬ Mem b n s := by
  have wa := (wf_of_chk ha).1
  have wb := (wf_of_chk hb).1
  have t := withouts_norm (b := b) (a := a) wb.1.1 wa.1
  have tl := withouts_len b a wb.1.1 wa.1
  have wt : WfC (b.foldl withoutP a) := wf_sub t.1 (fun n s h => wf_mem wa ((t.2 n s).1 h).1)
  refine ⟨?_, chk_of_wf wt (by omega), tl, t.2⟩
  unfold minusE
  rw [if_pos ⟨ha, hb⟩, bound_le (by omega)]
theorem within_yes {a b : List Sp} (ha : chkS a = 0) (hb : chkS b = 0) (h : ∀ n s, Mem a n s → Mem b n s) : withinE a b = true := by
  have wa := (wf_of_chk ha).1
  have wb := (wf_of_chk hb).1
  have t := withouts_norm (b := b) (a := a) wb.1.1 wa.1
  unfold withinE
  rw [decide_eq_true (show chkS a = 0 ∧ chkS b = 0 from ⟨ha, hb⟩), decide_eq_true (norm_none t.1 (fun n s q => ((t.2 n s).1 q).2 (h n s ((t.2 n s).1 q).1)))]
  rfl
theorem within_len {a b : List Sp} (ha : chkS a = 0) (hb : chkS b = 0) : withinE a b = decide ((b.foldl withoutP a).length = 0) := by
  unfold withinE
  rw [decide_eq_true (show chkS a = 0 ∧ chkS b = 0 from ⟨ha, hb⟩), Bool.true_and]
  exact decide_eq_decide.2 List.length_eq_zero_iff.symm
theorem has_iff {xs : List Sp} (h : chkS xs = 0) (n s : Int) : hasE xs n s = decide (Mem xs n s) := by
  unfold hasE
  rw [decide_eq_true h, Bool.true_and]
def aloneP (d : Int × Int) : Sp := (d.1, d.2, d.2)
def fineL (l : List (Int × Int)) : Bool := l.all (fun d => decide (FineQ d.1 d.2))
theorem fineL_iff {l : List (Int × Int)} : fineL l = true ↔ ∀ d ∈ l, FineQ d.1 d.2 := by
  unfold fineL
  rw [List.all_eq_true]
  exact ⟨fun h d hd => of_decide_eq_true (h d hd), fun h d hd => decide_eq_true (h d hd)⟩
def ofE (l : List (Int × Int)) : Int × List Sp := if fineL l = true then boundP (tidyS (l.map aloneP)) else (2, [])
theorem alone_mem {l : List (Int × Int)} {n s : Int} : Mem (l.map aloneP) n s ↔ (n, s) ∈ l := by
  unfold Mem
  constructor
  · rintro ⟨x, hx, h1, h2, h3⟩
    obtain ⟨d, hd, rfl⟩ := List.mem_map.1 hx
    have e : d = (n, s) := Prod.ext h1 (by have : d.2 ≤ s := h2; have : s ≤ d.2 := h3; show d.2 = s; omega)
    exact e ▸ hd
  · intro h
    exact ⟨(n, s, s), List.mem_map.2 ⟨(n, s), h, rfl⟩, rfl, Int.le_refl _, Int.le_refl _⟩
theorem alone_ok (l : List (Int × Int)) : ∀ x ∈ l.map aloneP, SpOk x := by
  intro x hx
  obtain ⟨d, hd, rfl⟩ := List.mem_map.1 hx
  exact Int.le_refl _
theorem alone_B3 {l : List (Int × Int)} (h : fineL l = true) : ∀ x ∈ l.map aloneP, B3 x := by
  intro x hx
  obtain ⟨d, hd, rfl⟩ := List.mem_map.1 hx
  have := fineL_iff.1 h d hd
  unfold FineQ at this
  unfold B3 aloneP
  simp only
  omega
theorem of_ok {l : List (Int × Int)} (h : fineL l = true) (hl : l.length ≤ 4000) : ofE l = (0, tidyS (l.map aloneP)) ∧ chkS (tidyS (l.map aloneP)) = 0 ∧ (tidyS (l.map aloneP)).length ≤ l.length ∧ ∀ n s, Mem (tidyS (l.map aloneP)) n s ↔ (n, s) ∈ l := by
  have t := tidy_norm (alone_ok l)
  have tl := tidy_len (l.map aloneP)
  rw [List.length_map] at tl
  have tm : ∀ n s, Mem (tidyS (l.map aloneP)) n s ↔ (n, s) ∈ l := fun n s => (t.2 n s).trans alone_mem
  have wt : WfC (tidyS (l.map aloneP)) := wf_sub t.1 (fun n s q => by
    have := fineL_iff.1 h _ ((tm n s).1 q)
    unfold FineQ at this
    simpa using this)
  refine ⟨?_, chk_of_wf wt (by omega), tl, tm⟩
  unfold ofE
  rw [if_pos h, bound_le (by omega)]
theorem of_sorted {l m : List (Int × Int)} (hm : ∀ d, d ∈ m ↔ d ∈ l) (hs : m.Pairwise (fun x y => x.1 < y.1 ∨ x.1 = y.1 ∧ x.2 < y.2)) : (m.map aloneP).foldl pushP [] = tidyS (l.map aloneP) := by
  have t := tidy_norm (alone_ok l)
  have f := fold_norm (zs := m.map aloneP) (out := []) norm_nil (alone_ok m) (List.pairwise_map.2 (hs.imp (fun {x y} q => by unfold Le aloneP; simp only; omega))) (fun y z h => by simp at h)
  refine norm_ext f.1 t.1 (fun n s => ?_)
  rw [f.2 n s, t.2 n s, alone_mem, alone_mem, hm]
  exact ⟨fun q => q.resolve_left mem_nil, .inr⟩
end
section
open Go.RowKit Go.Lib
set_option linter.unusedSimpArgs false
set_option linter.unusedVariables false


theorem fine_take {l : List (Int × Int)} {k : Nat} {x : Int × Int} (h : l[k]? = some x) : fineL (l.take (k + 1)) = (fineL (l.take k) && decide (FineQ x.1 x.2)) := by
  rw [List.take_add_one, h]
  simp [fineL]
theorem fine_no {l : List (Int × Int)} {k : Nat} {x : Int × Int} (h : l[k]? = some x) (hx : ¬ FineQ x.1 x.2) : fineL l = false := by
  rcases hf : fineL l with _ | _
  · rfl
  · exact absurd (fineL_iff.1 hf x (List.mem_of_getElem? h)) hx
theorem alone_take {l : List (Int × Int)} {k : Nat} {x : Int × Int} (h : l[k]? = some x) : (l.take (k + 1)).map aloneP = (l.take k).map aloneP ++ [(x.1, x.2, x.2)] := by
  rw [List.take_add_one, h]
  simp [aloneP]
end
section
open Go.RowKit Go.Sort
set_option linter.unusedSimpArgs false
set_option linter.unusedVariables false
section
variable {α : Type} [Inhabited α] {R : RowTy α}

theorem flatK_flat (d : Array α) : (flatK R.enc R.k d).toList = R.flat d.toList := by
  refine R.flat_ext _ _ (by simp) ?_
  intro q i x hx hi
  rw [Array.getElem?_toList] at hx ⊢
  have hq : q < d.size := (Array.getElem?_eq_some_iff.1 hx).1
  have hlt : q * R.k + i < d.size * R.k := by
    have := Nat.mul_le_mul_right R.k (show q + 1 ≤ d.size by omega)
    rw [Nat.succ_mul] at this
    omega
  have e := get_flatK R.enc R.k d (q * R.k + i) hlt
  have h1 : (q * R.k + i) / R.k = q := by
    rw [Nat.add_comm, Nat.add_mul_div_right _ _ R.kpos, Nat.div_eq_of_lt hi, Nat.zero_add]
  have h2 : (q * R.k + i) % R.k = i := by rw [Nat.add_comm, Nat.add_mul_mod_self_right, Nat.mod_eq_of_lt hi]
  rw [h1, h2] at e
  have hd : d[q]! = x := by
    rw [getElem!_pos d q hq]
    rw [Array.getElem?_eq_getElem hq] at hx
    exact Option.some.inj hx
  rw [hd] at e
  have hs : q * R.k + i < (flatK R.enc R.k d).size := by simpa using hlt
  rw [getElem!_pos (flatK R.enc R.k d) _ hs] at e
  have hi2 : i < (R.enc x).length := by rw [R.klen]; exact hi
  rw [getElem!_pos (R.enc x) _ hi2] at e
  rw [Array.getElem?_eq_getElem hs, List.getElem?_eq_getElem hi2, e]
theorem OwnK.holds {w : World} {g c : Nat} {xs : List α} (h : OwnK R w (some ⟨g, 0, none⟩) c xs) : HoldsK R.enc R.k w g 0 xs.toArray := by
  rcases h with ⟨h, _⟩ | ⟨g', full, h, hg, hl, _, hn, ht⟩
  · cases h
  · cases h
    intro j hj
    refine ⟨?_, free_of hg _⟩
    rw [Nat.zero_add, cell_of hg]
    have hs : j < (flatK R.enc R.k xs.toArray).size := hj
    rw [getElem!_pos (flatK R.enc R.k xs.toArray) _ hs]
    have e := flatK_flat (R := R) xs.toArray
    simp only at e
    have e2 : (flatK R.enc R.k xs.toArray)[j]? = (R.flat xs)[j]? := by rw [← Array.getElem?_toList, e]
    rw [Array.getElem?_eq_getElem hs] at e2
    have e3 : (R.flat full)[j]? = (R.flat xs)[j]? := by
      have hj2 : j < xs.length * R.k := by simpa using hj
      conv => rhs; rw [← ht, R.flat_take, List.getElem?_take, if_pos hj2]
    show (R.flat full).toArray[j]? = some (id _)
    rw [List.getElem?_toArray, e3, ← e2]
    rfl
theorem putCells_flat (xs ys full : List α) (hl : ys.length = xs.length) (hf : full.take xs.length = xs) (hn : xs.length ≤ full.length) :
    (putCells id 0 (flatK R.enc R.k ys.toArray) (R.flat full).toArray) = (R.flat (ys ++ full.drop xs.length)).toArray := by
  apply Array.toList_inj.1
  apply List.ext_getElem?
  intro p
  have hsz : (flatK R.enc R.k ys.toArray).size = xs.length * R.k := by simp [hl]
  rw [show (R.flat (ys ++ full.drop xs.length)).toArray.toList = R.flat (ys ++ full.drop xs.length) by simp, R.flat_app, R.flat_drop]
  rw [Array.getElem?_toList]
  unfold putCells
  rw [Array.getElem?_mapIdx, List.getElem?_toArray]
  by_cases hp : p < xs.length * R.k
  · have hs : p < (flatK R.enc R.k ys.toArray).size := by omega
    have hp2 : p < (R.flat full).length := by rw [R.flat_len]; exact Nat.lt_of_lt_of_le hp (Nat.mul_le_mul_right _ hn)
    rw [List.getElem?_append_left (by rw [R.flat_len, hl]; exact hp), List.getElem?_eq_getElem hp2]
    simp only [Option.map_some, Nat.zero_le, true_and, Nat.zero_add]
    rw [if_pos hs, Nat.sub_zero, getElem!_pos (flatK R.enc R.k ys.toArray) _ hs]
    have e := flatK_flat (R := R) ys.toArray
    have e2 : (flatK R.enc R.k ys.toArray)[p]? = (R.flat ys)[p]? := by rw [← Array.getElem?_toList, e]
    rw [← e2, Array.getElem?_eq_getElem hs]
    rfl
  · rw [List.getElem?_append_right (by rw [R.flat_len, hl]; omega), R.flat_len, hl, List.getElem?_drop, show xs.length * R.k + (p - xs.length * R.k) = p by omega]
    cases (R.flat full)[p]? with
    | none => rfl
    | some v =>
      simp only [Option.map_some]
      rw [if_neg (by rw [hsz]; omega)]
theorem OwnK.sorted {w : World} {g c : Nat} {xs ys : List α} (h : OwnK R w (some ⟨g, 0, none⟩) c xs) (hl : ys.length = xs.length) (n : Nat) (os : Array Obj) :
    OwnK R (sortWorldK R.enc R.k w g 0 n ys.toArray os) (some ⟨g, 0, none⟩) c ys ∧ Chg [g] w (sortWorldK R.enc R.k w g 0 n ys.toArray os) := by
  rcases h with ⟨h, _⟩ | ⟨g', full, h, hg, hfl, hm, hn, ht⟩
  · cases h
  · cases h
    have hsz : (sortWorldK R.enc R.k w g 0 n ys.toArray os).heap = (w.heap.modify g (onCells (putCells id 0 (flatK R.enc R.k ys.toArray)))) ++ os := rfl
    have hgl := lt_of_heap hg
    refine ⟨.inr ⟨g, ys ++ full.drop xs.length, rfl, ?_, by simp; omega, hm, by omega, ?_⟩, ⟨rfl, rfl, rfl, by rw [hsz]; simp, fun i hi hne => ?_⟩⟩
    · rw [hsz, Array.getElem?_append_left (by simpa using hgl), Array.getElem?_modify, if_pos rfl, hg]
      simp only [Option.map_some, onCells]
      rw [putCells_flat xs ys full hl ht (by omega)]
    · exact List.take_left
    · rw [hsz, Array.getElem?_append_left (by simpa using hi), Array.getElem?_modify, if_neg (by simp at hne; exact fun h => hne h.symm)]
end
end
section
open Go.RowKit Go.Sort
set_option linter.unusedSimpArgs false
set_option linter.unusedVariables false

set_option maxHeartbeats 1000000 in
/-- compare, and the world behind it: new blocks, draws. -/
theorem dcompare_grow (w : World) (x y : Int × Int) :
    Calls Try.prog 66 #[.agg #[.int .i64 x.1, .int .i64 x.2], .agg #[.int .i64 y.1, .int .i64 y.2]] w fun e w' => e = .returned (.int .i64 (cmpD x.1 x.2 y.1 y.2)) ∧ ∃ q os, w' = grow (w.drewN q) os := by
  obtain ⟨a, s⟩ := x
  obtain ⟨b, t⟩ := y
  simp only
  obtain ⟨w0, hw0, c0, b0, b1⟩ := news2 w (.cells #[.int .i64 a, .int .i64 s] 37) (.cells #[.int .i64 b, .int .i64 t] 37)
  have k0 := cell_of b0 0
  have k1 := cell_of b0 1
  have k3 := cell_of b1 0
  have k4 := cell_of b1 1
  simp only [List.getElem?_toArray, List.getElem?_cons_succ, List.getElem?_cons_zero] at k0 k1 k3 k4
  have g0 := lt_of_heap b0
  have g1 := lt_of_heap b1
  have W0 := Lib.hid hw0
  have hgr : ∀ o, ∃ q os, (w0.alloc o).drew = grow (w.drewN q) os := fun o => by
    rw [hw0]
    exact ⟨1, #[(.cells #[.int .i64 a, .int .i64 s] 37), (.cells #[.int .i64 b, .int .i64 t] 37), o], by rw [alloc_eq_grow, alloc_eq_grow, alloc_eq_grow, grow_grow, grow_grow]; rfl⟩
  have GR := Lib.hid hgr
  clear hw0 c0 b0 b1 hgr
  unfold cmpD
  generalize hr : or2 (cmpI a b) (cmpI s t) = R
  have HR := Lib.hid hr
  clear hr
  go_enter Try.func66, Try.ntmps66
  go_wp2
  rw [← W0.out]
  have n1 := World.new_ne w0 ⟨w.heap.size, 0, none⟩ k0
  have n2 := World.new_ne w0 ⟨w.heap.size + 1, 0, none⟩ k3
  generalize w.heap.size + 1 = s1 at *
  generalize w.heap.size = s0 at *
  go_region_held3 (fun w' => w'.cell? ⟨s0, 0, none⟩ = some (.int .i64 a) ∧ w'.cell? ⟨s0, 1, none⟩ = some (.int .i64 s) ∧ w'.cell? ⟨s1, 0, none⟩ = some (.int .i64 b) ∧ w'.cell? ⟨s1, 1, none⟩ = some (.int .i64 t)) (first | exact ⟨k0, k1, k3, k4⟩ | go_keep)
    ((first
      | (go_at_call 77; (with_reducible refine (cmpint_any _ _ _).mono ?_); rintro e w1 ⟨rfl, rfl⟩)
      | (go_at_call 76; refine (or2_any _ w0.heap.size (cmpI a b) (cmpI s t) (show (w0.alloc _).drew.heap[_]? = _ from heap_alloc_new w0 _)).mono ?_; rintro e w1 ⟨rfl, rfl⟩)))
  all_goals
    go_wp2
    go_ret
    exact ⟨by first | rfl | (rw [← HR.out]; rfl), GR.out _⟩
def cmpDD (x y : Int × Int) : Int := cmpD x.1 x.2 y.1 y.2
theorem ltDD (x y : Int × Int) : ltOf cmpDD x y = decide (LtD x.1 x.2 y.1 y.2) := by
  unfold ltOf cmpDD
  exact decide_eq_decide.2 cmpD_lt
theorem swoD : SWO (ltOf cmpDD) where
  irrefl x := by rw [ltDD]; simp [LtD]
  trans x y z h1 h2 := by
    rw [ltDD, decide_eq_true_eq] at *
    unfold LtD at *
    omega
  ntrans x y z h1 h2 := by
    rw [ltDD, decide_eq_false_iff_not] at *
    unfold LtD at *
    omega
theorem totalD (x y : Int × Int) (h1 : ltOf cmpDD x y = false) (h2 : ltOf cmpDD y x = false) : x = y := by
  rw [ltDD, decide_eq_false_iff_not] at h1 h2
  unfold LtD at h1 h2
  refine Prod.ext ?_ ?_ <;> omega
/-- In order. -/
def sortL (xs : List (Int × Int)) : List (Int × Int) := xs.mergeSort fun x y => !(ltOf cmpDD) y x
theorem sortL_len (xs : List (Int × Int)) : (sortL xs).length = xs.length := List.length_mergeSort _
set_option maxHeartbeats 1000000 in
theorem sortfunc_some (w : World) (g c : Nat) (xs : List (Int × Int)) (h : OwnK dotTy w (some ⟨g, 0, none⟩) c xs) (hm : xs.length < 4611686018427387904) :
    Calls Try.prog 65 #[.slice (some ⟨g, 0, none⟩) xs.length c, .func (.func 66) #[] #[]] w fun e w' => e = .returned (.tuple #[]) ∧ OwnK dotTy w' (some ⟨g, 0, none⟩) c (sortL xs) ∧ Chg [g] w w' := by
  have hblk : g < w.heap.size := by
    rcases h.shape with ⟨h, _⟩ | ⟨g', h, hl⟩
    · cases h
    · cases h; exact hl
  have eg : ∀ args w, (callFunc 66 args).run Try.prog w = .ok (.enter 66 args) w := enters_of Try.func66 (by kernel_rfl) rfl
  have hcmp : CmpLays Try.prog 66 #[] dotTy.enc dotTy.k cmpDD g 0 xs.toArray.size w := fun m os dk _ x y => by
    have := dcompare_grow (sortWorldK dotTy.enc dotTy.k w g 0 m dk os) x y
    exact this
  have hcon := AnyQ.slices_SortFunc_total Try.llLaysF06 2 Try.isAgg37 Try.sizeOf37 dotTy.enc dotTy.klen dotTy.one cmpDD swoD 66 #[] g 0 c xs.toArray w eg hcmp h.holds hblk (by simpa using hm) totalD
  refine Calls.mono hcon ?_
  rintro e w' ⟨he, n, os, hw⟩
  refine ⟨he, ?_⟩
  rw [hw]
  exact h.sorted (ys := sortL xs) (sortL_len xs) n os
end
section
open Go.RowKit Go.Sort Go.Lib
set_option linter.unusedSimpArgs false
set_option linter.unusedVariables false

theorem RdK.none_nil {α : Type} {R : RowTy α} {w : World} {n : Nat} {xs : List α} (h : RdK R w none n xs) : xs = [] := by
  cases xs with
  | nil => rfl
  | cons y ys =>
    have : 0 < (R.flat (y :: ys)).length := by rw [R.flat_len, List.length_cons]; exact Nat.mul_pos (by omega) R.kpos
    obtain ⟨a, h, _⟩ := h.cells 0 _ (List.getElem?_eq_getElem this); cases h
set_option maxRecDepth 100000 in
set_option maxHeartbeats 1000000 in
theorem cloneDot_any (w : World) (A : Option Addr) (n c : Nat) (xs : List (Int × Int)) (h : RdK dotTy w A n xs) (hn : n * 400 ≤ 140737488355327) :
    Calls Try.prog 64 #[.slice A n c] w fun e w' => ∃ A' c', e = .returned (.slice A' n c') ∧ OwnK dotTy w' A' c' xs ∧ (∀ a, A' = some a → w.heap.size ≤ a.block) ∧ Chg [] w w' := by
  have heq := fun W => Lib.run_eql_slice_nil (P := Try.prog) W 23 37 A n c 0 0 Try.underlying23
  cases A with
  | none =>
    have hx := h.none_nil
    subst hx
    have hl : n = 0 := h.len.symm
    subst hl
    clear h
    go_enter Try.func64, Try.ntmps64
    go_wp2
    go_ret
    exact ⟨none, 0, rfl, OwnK.none_ _, by simp, Chg.refl _ _⟩
  | some ad =>
    obtain ⟨w1, hw1, c1, b1⟩ := news1 w (.cells #[] 37)
    have W1 := Lib.hid hw1
    have HA := Lib.hid (h.chg c1 (by simp))
    have HO : Hid (OwnK dotTy w1 (some ⟨w.heap.size, 0, none⟩) 0 []) := Lib.hid (.of (full := []) b1 (Nat.le_refl _) (Nat.zero_le _) rfl rfl)
    have C1 := Lib.hid c1
    have HN : Hid ((0 + n) * 400 ≤ 140737488355327) := Lib.hid (by rw [Nat.zero_add]; exact hn)
    clear hw1 c1 b1 h hn
    go_enter Try.func64, Try.ntmps64
    go_wp2_with (at_builtin; rw [← W1.out]; refine wpList_appK rfl _ _ rfl rfl HO.out rfl rfl HA.out HN.out ?_; intro A2 c2 w2 u2 d2 e2)
    go_ret
    rw [Nat.zero_add] at *
    have hA2 : ∀ a, A2 = some a → w.heap.size ≤ a.block := by
      rintro a rfl
      rcases e2 with h | h
      · cases h; exact Nat.le_refl _
      · cases h; exact C1.out.size
    exact ⟨A2, c2, by simp, by simpa using u2, hA2, C1.out.grown d2 (fun k hk => by simp at hk; subst hk; exact .inr (Nat.le_refl _))⟩

/-- What is cleared from some place on. -/
theorem run_clearD (w : World) (ty : TypeId) (g c n k : Nat) (full : List (Int × Int)) (hg : w.heap[g]? = some (.cells (dotTy.flat full).toArray 37 (0, 0))) (hl : full.length = c) (hn : n ≤ c) (hk : k < n) :
    (Builtin.clear_ #[23] ty #[.slice (some ⟨g, k * 2, none⟩) (n - k) (c - k)]).run Try.prog w = .ok (.tuple #[]) (w.setRow g (dotTy.flat (full.take k ++ List.replicate (n - k) (0, 0) ++ full.drop n)).toArray) := by
  have hz := dotTy.zeros (n - k)
  have hk2 : dotTy.k = 2 := rfl
  have hlen : (dotTy.flat full).length = full.length * 2 := dotTy.flat_len full
  have hlz : (dotTy.flat (List.replicate (n - k) dotTy.z)).length = (n - k) * 2 := by rw [dotTy.flat_len, List.length_replicate, hk2]
  have hst := run_storeCells_at (P := Try.prog) g (k * 2) 37 (dotTy.flat (List.replicate (n - k) dotTy.z)) 0 _ w hg (by rw [hlz, List.size_toArray, hlen]; omega) (dotTy.flat_one _)
  have ht := dotTy.flat_take full k
  have hd := dotTy.flat_drop full n
  rw [hk2] at ht hd
  have hfin : ((dotTy.flat full).toArray.toList.take (k * 2 + 0) ++ dotTy.flat (List.replicate (n - k) dotTy.z) ++ (dotTy.flat full).toArray.toList.drop (k * 2 + 0 + (dotTy.flat (List.replicate (n - k) dotTy.z)).length)) = dotTy.flat (full.take k ++ List.replicate (n - k) (0, 0) ++ full.drop n) := by
    rw [dotTy.flat_app, dotTy.flat_app, ht, hd, hlz, show k * 2 + 0 + (n - k) * 2 = n * 2 by omega]
    rfl
  rw [hfin] at hst
  obtain ⟨m, hm⟩ : ∃ m, n - k = m + 1 := ⟨n - k - 1, by omega⟩
  have hzv : ∀ w, (zeroValue 37).run Try.prog w = .ok (.agg #[.int .i64 0, .int .i64 0]) w := Try.zeroValue37
  have hzz : (Builtin.zeroCells (Value.agg #[.int .i64 0, .int .i64 0]).cells (n - k)).toList = dotTy.flat (List.replicate (n - k) dotTy.z) := by
    exact (congrArg Array.toList hz).trans (by simp)
  rw [hm] at hst hzz ⊢
  simp [Builtin.clear_, run_underlying Try.underlying23, hzv, hzz, hst]
instance : Inhabited (Int × Int) := ⟨(0, 0)⟩
theorem dk_at {dk : Array (Int × Int)} {rest : List (Int × Int)} {j : Nat} (h : j < dk.size) : (dk.toList ++ rest)[j]? = some dk[j]! := by
  rw [List.getElem?_append_left (by simpa using h), Array.getElem?_toList, Array.getElem?_eq_getElem h, getElem!_pos dk j h]
theorem dk_set {dk : Array (Int × Int)} {rest : List (Int × Int)} {j : Nat} (x : Int × Int) (h : j < dk.size) : (dk.toList ++ rest).set j x = (dk.setIfInBounds j x).toList ++ rest := by
  rw [List.set_append_left _ _ (by simpa using h), Array.toList_setIfInBounds]
/-- The row, as far as it is gone through. -/
structure RowD (w wr : World) (g : Nat) (dk : Array (Int × Int)) (rest : List (Int × Int)) : Prop where
  row : wr.heap[g]? = some (.cells (dotTy.flat (dk.toList ++ rest)).toArray 37 (0, 0))
  chg : Chg [g] w wr
theorem RowD.at_ {w wr : World} {g : Nat} {dk : Array (Int × Int)} {rest : List (Int × Int)} (h : RowD w wr g dk rest) (hm : (dk.toList ++ rest).length ≤ maxLen) {j : Nat} (hj : j < dk.size) :
    (wr.cell? ⟨g, j * 2, none⟩ = some (.int .i64 dk[j]!.1) ∧ wr.cell? ⟨g, j * 2 + 1, none⟩ = some (.int .i64 dk[j]!.2)) ∧ wr.frozen? ⟨g, j * 2, none⟩ = false ∧ wr.frozen? ⟨g, j * 2 + 1, none⟩ = false := by
  have hrd : RdK dotTy wr (some ⟨g, 0, none⟩) (dk.toList ++ rest).length (dk.toList ++ rest) := (OwnK.of (R := dotTy) (xs := dk.toList ++ rest) h.row (Nat.le_refl _) hm rfl (List.take_length)).reads
  have := dotCells hrd (dk_at hj)
  simp only [Nat.zero_add] at this
  exact ⟨this, free_of h.row _, free_of h.row _⟩
theorem RowD.put {w wr : World} {g : Nat} {dk : Array (Int × Int)} {rest : List (Int × Int)} (h : RowD w wr g dk rest) {j : Nat} (hj : j < dk.size) (x : Int × Int) :
    RowD w ((wr.setCell ⟨g, j * 2, none⟩ (.int .i64 x.1)).setCell ⟨g, j * 2 + 1, none⟩ (.int .i64 x.2)) g (dk.setIfInBounds j x) rest := by
  refine ⟨?_, h.chg.trans (((Chg.refl [g] wr).setCell (p := ⟨g, j * 2, none⟩) (.inl (by simp)) _).setCell (p := ⟨g, j * 2 + 1, none⟩) (.inl (by simp)) _)⟩
  have := dotPut wr g j (dk.toList ++ rest) x h.row (by simp; omega)
  rwa [dk_set x hj] at this
theorem RowD.drew {w wr : World} {g : Nat} {dk : Array (Int × Int)} {rest : List (Int × Int)} (h : RowD w wr g dk rest) (n : Nat) : RowD w (wr.drewN n) g dk rest := ⟨h.row, h.chg.drewN n⟩
theorem Lib.CompInv.take_ {d dk : Array (Int × Int)} {m k : Nat} (h : CompInv d m k dk) (hm : m ≤ d.size) : dk.toList.take k = compactUpTo d m := by
  apply List.ext_getElem?
  intro j
  have hk := h.lt
  have hs := h.size
  by_cases hj : j < k
  · rw [List.getElem?_take, if_pos hj, h.low j hj, Array.getElem?_toList, Array.getElem?_eq_getElem (by omega), getElem!_pos dk j (by omega)]
  · rw [List.getElem?_eq_none (by simp; omega), List.getElem?_eq_none (by rw [h.len]; omega)]
/-- What is left when what is told twice is left out. -/
def cmpct (xs : List (Int × Int)) : List (Int × Int) := compactUpTo xs.toArray xs.length
set_option maxHeartbeats 4000000 in
theorem compactDot_row (w : World) (g c : Nat) (xs rest : List (Int × Int)) (hg : w.heap[g]? = some (.cells (dotTy.flat (xs ++ rest)).toArray 37 (0, 0))) (hc : (xs ++ rest).length = c) (hcm : c ≤ 9223372036854775807) (h2 : ¬ xs.length < 2) :
    Calls Try.prog 67 #[.slice (some ⟨g, 0, none⟩) xs.length c] w fun e w' => e = .returned (.slice (some ⟨g, 0, none⟩) (cmpct xs).length c) ∧ OwnK dotTy w' (some ⟨g, 0, none⟩) c (cmpct xs) ∧ Chg [g] w w' := by
  obtain ⟨d, hd⟩ : ∃ d : Array (Int × Int), d = xs.toArray := ⟨_, rfl⟩
  have hds : d.size = xs.length := by rw [hd]; simp
  have hdl : d.toList = xs := by rw [hd]
  have hcr : d.size + rest.length = c := by rw [hds, ← hc, List.length_append]
  have hml : ∀ dk : Array (Int × Int), dk.size = d.size → (dk.toList ++ rest).length ≤ maxLen := fun dk h => by rw [List.length_append, Array.length_toList]; unfold maxLen; omega
  have HM := Lib.hid hml
  have hall0 : (∀ j, j < d.size → keeps d j = true) → cmpct xs = xs := fun h => by
    unfold cmpct
    rw [← hds, ← hd, compactUpTo_all d _ h, range_map_get, hdl]
  have HX := Lib.hid hall0
  have hct : cmpct xs = compactUpTo d d.size := by unfold cmpct; rw [hd]; simp
  have HC := Lib.hid hct
  have HR : Hid (RowD w w g d rest) := Lib.hid ⟨by rw [hdl]; exact hg, Chg.refl _ _⟩
  have HO := Lib.hid (OwnK.of (R := dotTy) (full := xs ++ rest) (xs := xs) hg (by rw [← hc]; simp) (by unfold maxLen; omega) hc List.take_left)
  have HD := Lib.hid hdl
  rw [← hds] at h2 ⊢
  have h2' : ¬ ((d.size : Int) < 2) := by omega
  have HS := Lib.hid hds
  have HCR := Lib.hid hcr
  have hle : d.size ≤ c := by omega
  clear hd hds hdl hml hall0 hct hg hc hcr
  go_enter Try.func67, Try.ntmps67
  go_wp2
  go_loopg [3] d.size (fun G s3 wr => ∃ k : Nat, 1 ≤ k ∧ k ≤ d.size ∧ d.size - k ≤ G ∧ s3 = .int .i64 k ∧ Hid (Chg [] w wr ∧ ∀ j, j < k → keeps d j = true))
  case atStart => exact ⟨1, Nat.le_refl _, by omega, by omega, rfl, Chg.refl _ _, keeps_lt_one d⟩
  case round =>
    obtain ⟨k, hk1, hk, hG, rfl, HA⟩ := hrel
    by_cases hlt : k < d.size
    · have hrow : RowD w wr g d rest := ⟨HA.out.1.at_ HR.out.row (by simp), HA.out.1.mono (by simp)⟩
      obtain ⟨⟨p0, p1⟩, _⟩ := hrow.at_ (HM.out d rfl) hlt
      obtain ⟨⟨q0, q1⟩, _⟩ := hrow.at_ (HM.out d rfl) (j := k - 1) (by omega)
      have HRW := Lib.hid hrow
      have i0 : (0 : Int) ≤ (k : Int) := by omega
      have i1 : (k : Int) < (d.size : Int) := by omega
      have i2 : IntKind.i64.wrap ((k : Int) - 1) = ((k - 1 : Nat) : Int) := by rw [IntWalk.i64_in _ (by omega)]; omega
      have i3 : ((k - 1 : Nat) : Int) < (d.size : Int) := by omega
      generalize hx : d[k]! = x at *
      generalize hy : d[k - 1]! = y at *
      have B := Lib.hid (And.intro hx hy)
      clear hrow hx hy
      by_cases hxy : x = y
      · subst hxy
        skip
        go_wp2_with fail
        go_quiet (fail)
        clear p0 p1 q0 q1
        have i4 : (0 : Int) ≤ ((d.size - k : Nat) : Int) := by omega
        have i5 : ¬ c = k := by omega
        go_wp2
        go_loopg [3, 5] d.size (fun G s3 s5 wr => ∃ (kk k2 : Nat) (dk : Array (Int × Int)), s3 = .int .i64 kk ∧ s5 = .int .i64 k2 ∧ 1 ≤ k2 ∧ k + k2 ≤ d.size ∧ d.size - (k + k2) ≤ G ∧ Hid (RowD w wr g dk rest ∧ CompInv d (k + k2) kk dk))
        case atStart => exact ⟨k, 1, d, rfl, rfl, Nat.le_refl _, by omega, by omega, HRW.out.drew _, CompInv.start HA.out.2 (keeps_neg (by omega) (by rw [B.out.1, B.out.2]))⟩
        case round =>
          obtain ⟨kk, k2, dk, rfl, rfl, h1, hle2, hg2, HI⟩ := hrel
          have hkk := HI.out.2.lt
          have hds := HI.out.2.size
          by_cases hlt2 : k + k2 < d.size
          · obtain ⟨⟨p0, p1⟩, _⟩ := HI.out.1.at_ (HM.out dk hds) (j := k + k2) (by omega)
            obtain ⟨⟨q0, q1⟩, _⟩ := HI.out.1.at_ (HM.out dk hds) (j := k + k2 - 1) (by omega)
            obtain ⟨⟨r0, r1⟩, f0, f1⟩ := HI.out.1.at_ (HM.out dk hds) (j := kk) (by omega)
            rw [HI.out.2.high (k + k2) (by omega), show (k + k2) * 2 = k * 2 + k2 * 2 by omega] at p0 p1
            rw [HI.out.2.high (k + k2 - 1) (by omega), show (k + k2 - 1) * 2 = k * 2 + (k2 - 1) * 2 by omega] at q0 q1
            generalize hu : d[k + k2]! = u at *
            generalize hv : d[k + k2 - 1]! = v at *
            generalize dk[kk]! = old at *
            have C := Lib.hid (And.intro hu hv)
            clear hu hv
            have HP := Lib.hid ((HI.out.1.drew 1).put (j := kk) (by omega) u)
            have j0 : (0 : Int) ≤ (k2 : Int) := by omega
            have j1 : (k2 : Int) < ((d.size - k : Nat) : Int) := by omega
            have j2 : IntKind.i64.wrap ((k2 : Int) - 1) = ((k2 - 1 : Nat) : Int) := by rw [IntWalk.i64_in _ (by omega)]; omega
            have j3 : ((k2 - 1 : Nat) : Int) < ((d.size - k : Nat) : Int) := by omega
            have j4 : (0 : Int) ≤ (kk : Int) := by omega
            have j5 : (kk : Int) < (d.size : Int) := by omega
            by_cases huv : u = v
            · subst huv
              go_wp2_with fail
              go_quiet (fail)
              go_wp2
              go_roundg (d.size - (k + (k2 + 1)))
              case measure => omega
              case rel => exact ⟨kk, k2 + 1, dk, rfl, by go_num, by omega, by omega, Nat.le_refl _, HI.out.1.drew _, HI.out.2.skip (keeps_neg (by omega) (by rw [C.out.1, C.out.2]))⟩
            · have HU := Lib.hid huv
              by_cases h0 : u.1 = v.1
              · have h1 : ¬ u.2 = v.2 := fun h => huv (Prod.ext h0 h)
                clear huv
                go_wp2_with fail
                go_quiet (fail)
                go_wp2
                go_roundg (d.size - (k + (k2 + 1)))
                case measure => omega
                case rel => exact ⟨kk + 1, k2 + 1, dk.setIfInBounds kk u, by go_num, by go_num, by omega, by omega, Nat.le_refl _, by have hp := (HI.out.1.drew nq).put (j := kk) (by omega) u; first | exact hp | (rw [h0] at hp; exact hp), by have := HI.out.2.keep hlt2 (keeps_pos (by rw [C.out.1, C.out.2]; exact HU.out)); rwa [C.out.1] at this⟩
              · skip
                clear huv
                go_wp2_with fail
                go_quiet (fail)
                go_wp2
                go_roundg (d.size - (k + (k2 + 1)))
                case measure => omega
                case rel => exact ⟨kk + 1, k2 + 1, dk.setIfInBounds kk u, by go_num, by go_num, by omega, by omega, Nat.le_refl _, by have hp := (HI.out.1.drew nq).put (j := kk) (by omega) u; first | exact hp | (rw [h0] at hp; exact hp), by have := HI.out.2.keep hlt2 (keeps_pos (by rw [C.out.1, C.out.2]; exact HU.out)); rwa [C.out.1] at this⟩
          · have hend : k + k2 = d.size := by omega
            have hcl := fun ty => run_clearD wr ty g c d.size kk (dk.toList ++ rest) HI.out.1.row (by rw [List.length_append, Array.length_toList, hds]; exact HCR.out) hle (by omega)
            have hI := HI.out.2
            rw [hend] at hI
            have hlen := hI.len
            have hdn := hI.done (0, 0)
            have j6 : ¬ c = kk := by omega
            have j7 : (kk : Int) ≤ (d.size : Int) := by omega
            have j8 : (0 : Int) ≤ (kk : Int) := by omega
            have HF := Lib.hid (And.intro hI hdn)
            clear hI hlen hdn
            have HJ := Lib.hid (And.intro hend (And.intro hkk hds))
            have hz : decide (k2 < d.size - k) = false := by simp; omega
            have hz2 : ¬ k2 < d.size - k := by omega
            clear hend hkk hds hlt2
            have hown := OwnK.of (R := dotTy) (w := wr.setRow g (dotTy.flat (List.take kk (dk.toList ++ rest) ++ (List.replicate (d.size - kk) (0, 0) ++ List.drop d.size (dk.toList ++ rest)))).toArray) (g := g) (c := c) (full := List.take kk (dk.toList ++ rest) ++ (List.replicate (d.size - kk) (0, 0) ++ List.drop d.size (dk.toList ++ rest))) (xs := cmpct xs) (setRow_heap wr g _ _ _ _ HI.out.1.row)
              (by rw [HC.out, HF.out.1.len]; omega) (by unfold maxLen; omega) (by have := HJ.out.2.2; have := HCR.out; simp; omega) (by rw [HC.out, HF.out.1.len, List.take_append_of_le_length (by have := HJ.out; simp; omega), List.take_take, Nat.min_self, List.take_append_of_le_length (by have := HJ.out; simp; omega)]; exact Lib.CompInv.take_ HF.out.1 (Nat.le_refl _))
            have hch : Chg [g] w (wr.setRow g (dotTy.flat (List.take kk (dk.toList ++ rest) ++ (List.replicate (d.size - kk) (0, 0) ++ List.drop d.size (dk.toList ++ rest)))).toArray) := HI.out.1.chg.trans ⟨rfl, rfl, rfl, by simp, fun i hi hn => setRow_other wr g i _ (by simpa using hn)⟩
            have HE := Lib.hid (And.intro hown hch)
            clear hown hch
            go_wp2
            go_ret
            exact ⟨by rw [HC.out, HF.out.1.len]; rfl, HE.out.1, HE.out.2⟩
      · have HU := Lib.hid hxy
        by_cases h0 : x.1 = y.1
        · have h1 : ¬ x.2 = y.2 := fun h => hxy (Prod.ext h0 h)
          clear hxy
          go_wp2_with fail
          go_quiet (fail)
          go_wp2
          go_roundg (d.size - (k + 1))
          case measure => omega
          case rel =>
            refine ⟨k + 1, by omega, by omega, Nat.le_refl _, by go_num, HA.out.1.drewN _, fun j hj => ?_⟩
            by_cases e : j = k
            · subst e
              exact keeps_pos (by rw [B.out.1, B.out.2]; exact HU.out)
            · exact HA.out.2 j (by omega)
        · skip
          clear hxy
          go_wp2_with fail
          go_quiet (fail)
          go_wp2
          go_roundg (d.size - (k + 1))
          case measure => omega
          case rel =>
            refine ⟨k + 1, by omega, by omega, Nat.le_refl _, by go_num, HA.out.1.drewN _, fun j hj => ?_⟩
            by_cases e : j = k
            · subst e
              exact keeps_pos (by rw [B.out.1, B.out.2]; exact HU.out)
            · exact HA.out.2 j (by omega)
    · obtain rfl : k = d.size := by omega
      clear hlt
      go_wp2
      go_ret
      rw [HX.out HA.out.2]
      exact ⟨by rw [← HS.out]; rfl, HO.out.chg HA.out.1 (by simp), HA.out.1.mono (by simp)⟩
end
section
open Go.RowKit Go.Sort Go.Lib
set_option linter.unusedSimpArgs false
set_option linter.unusedVariables false

theorem cmpct_small {xs : List (Int × Int)} (h : xs.length < 2) : cmpct xs = xs := by
  unfold cmpct
  have hk : ∀ j, j < xs.length → keeps xs.toArray j = true := fun j hj => keeps_lt_one _ j (by omega)
  rw [compactUpTo_all _ _ hk]
  have := range_map_get xs.toArray
  simpa using this
theorem compactDot_any (w : World) (A : Option Addr) (n c : Nat) (xs : List (Int × Int)) (h : OwnK dotTy w A c xs) (hn : n = xs.length) (hm : n ≤ 140737488351232) :
    Calls Try.prog 67 #[.slice A n c] w fun e w' => e = .returned (.slice A (cmpct xs).length c) ∧ OwnK dotTy w' A c (cmpct xs) ∧ Chg (blkOf A) w w' := by
  subst hn
  by_cases h2 : xs.length < 2
  · rw [cmpct_small h2]
    have hi : (xs.length : Int) < 2 := by omega
    have HO := Lib.hid h
    clear h h2
    go_enter Try.func67, Try.ntmps67
    go_wp2
    go_ret
    exact ⟨rfl, HO.out, Chg.refl _ _⟩
  · rcases h with ⟨_, rfl, _⟩ | ⟨g, full, rfl, hg, hl, hc, hn, ht⟩
    · simp at h2
    · have hs : full = xs ++ full.drop xs.length := by
        conv => lhs; rw [← List.take_append_drop xs.length full]
        rw [ht]
      have := compactDot_row w g c xs (full.drop xs.length) (by rw [← hs]; exact hg) (by rw [← hs]; exact hl) (by unfold maxLen at hc; exact hc) h2
      exact this
theorem sortfunc_any (w : World) (A : Option Addr) (n c : Nat) (xs : List (Int × Int)) (h : OwnK dotTy w A c xs) (hn : n = xs.length) (hm : n ≤ 140737488351232) :
    Calls Try.prog 65 #[.slice A n c, .func (.func 66) #[] #[]] w fun e w' => e = .returned (.tuple #[]) ∧ OwnK dotTy w' A c (sortL xs) ∧ Chg (blkOf A) w w' := by
  subst hn
  rcases h.shape with ⟨rfl, rfl, rfl⟩ | ⟨g, rfl, _⟩
  · have := AnyF.slices_SortFunc_none Try.llLaysF06 none 0 (.func (.func 66) #[] #[]) w
    refine Calls.mono this ?_
    rintro e w' ⟨he, rfl⟩
    have e0 : sortL [] = [] := List.eq_nil_of_length_eq_zero (sortL_len [])
    rw [e0]
    exact ⟨he, OwnK.none_ _, Chg.refl _ _⟩
  · exact sortfunc_some w g c xs h (by omega)
/-- Each once, in order. -/
def sortD (xs : List (Int × Int)) : List (Int × Int) := cmpct (sortL xs)
set_option maxHeartbeats 1000000 in
theorem dsort_any (w : World) (A : Option Addr) (n c : Nat) (xs : List (Int × Int)) (h : RdK dotTy w A n xs) (hn : n * 400 ≤ 140737488355327) :
    Calls Try.prog 33 #[.slice A n c] w fun e w' => ∃ A' c', e = .returned (.slice A' (sortD xs).length c') ∧ OwnK dotTy w' A' c' (sortD xs) ∧ (∀ a, A' = some a → w.heap.size ≤ a.block) ∧ Chg [] w w' := by
  have hl := h.len
  have HA := Lib.hid h
  have HN := Lib.hid hn
  have HL := Lib.hid hl
  clear h hn hl
  go_enter Try.func33, Try.ntmps33
  go_wp2_with fail
  refine (cloneDot_any w A n c xs HA.out HN.out).mono ?_
  rintro e w1 ⟨A1, c1, rfl, o1, n1, h1⟩
  have O1 := Lib.hid o1
  have N1 := Lib.hid n1
  have C1 := Lib.hid h1
  clear o1 n1 h1
  go_wp2_with fail
  refine (sortfunc_any w1 A1 n c1 xs O1.out HL.out.symm (by have := HN.out; omega)).mono ?_
  rintro e w2 ⟨rfl, o2, h2⟩
  have O2 := Lib.hid o2
  have C2 := Lib.hid (C1.out.trans' h2 fun i hi => .inr (blkOf_new N1.out i hi))
  clear o2 h2 O1
  go_wp2_with fail
  refine (compactDot_any w2 A1 n c1 (sortL xs) O2.out (by rw [sortL_len]; exact HL.out.symm) (by have := HN.out; omega)).mono ?_
  rintro e w3 ⟨rfl, o3, h3⟩
  have O3 := Lib.hid o3
  have C3 := Lib.hid (C2.out.trans' h3 fun i hi => .inr (blkOf_new N1.out i hi))
  clear o3 h3
  go_wp2
  go_ret
  exact ⟨A1, c1, rfl, O3.out, N1.out, C3.out⟩
end
section
open Go.RowKit Go.Sort Go.Lib
set_option linter.unusedSimpArgs false
set_option linter.unusedVariables false

def LtP (x y : Int × Int) : Prop := LtD x.1 x.2 y.1 y.2
instance (x y : Int × Int) : Decidable (LtP x y) := by unfold LtP; exact inferInstance
theorem LtP.irr (x : Int × Int) : ¬ LtP x x := by unfold LtP LtD; omega
theorem LtP.tr {x y z : Int × Int} (h : LtP x y) (k : LtP y z) : LtP x z := by unfold LtP LtD at *; omega
theorem LtP.conn {x y : Int × Int} (h : ¬ LtP x y) (k : ¬ LtP y x) : x = y := by
  unfold LtP LtD at *
  refine Prod.ext ?_ ?_ <;> omega
/-- Two rising lists of the same elements are one. -/
theorem strict_ext : ∀ {l m : List (Int × Int)}, l.Pairwise LtP → m.Pairwise LtP → (∀ x, x ∈ l ↔ x ∈ m) → l = m
  | [], [], _, _, _ => rfl
  | [], y :: m, _, _, h => absurd ((h y).2 (by simp)) (by simp)
  | x :: l, [], _, _, h => absurd ((h x).1 (by simp)) (by simp)
  | x :: l, y :: m, hl, hm, h => by
    rw [List.pairwise_cons] at hl hm
    have hxy : x = y := by
      have h1 := (h x).1 (by simp)
      have h2 := (h y).2 (by simp)
      rw [List.mem_cons] at h1 h2
      rcases h1 with h1 | h1
      · exact h1
      · rcases h2 with h2 | h2
        · exact h2.symm
        · exact absurd ((hm.1 x h1).tr (hl.1 y h2)) (LtP.irr y)
    subst hxy
    congr 1
    refine strict_ext hl.2 hm.2 fun z => ?_
    have := h z
    rw [List.mem_cons, List.mem_cons] at this
    constructor
    · intro hz
      rcases this.1 (.inr hz) with e | e
      · subst e; exact absurd (hl.1 z hz) (LtP.irr z)
      · exact e
    · intro hz
      rcases this.2 (.inr hz) with e | e
      · subst e; exact absurd (hm.1 z hz) (LtP.irr z)
      · exact e
theorem sortL_sorted (xs : List (Int × Int)) : (sortL xs).Pairwise fun x y => ¬ LtP y x := by
  have h := List.pairwise_mergeSort (le := fun x y => !(ltOf cmpDD) y x) (fun a b c h1 h2 => by
    simp only [ltDD, Bool.not_eq_true', decide_eq_false_iff_not] at *
    unfold LtD at *; omega) (fun a b => by
    simp only [ltDD, Bool.or_eq_true, Bool.not_eq_true', decide_eq_false_iff_not] at *
    unfold LtD; omega) xs
  refine h.imp ?_
  intro a b hab
  simp only [ltDD, Bool.not_eq_true', decide_eq_false_iff_not] at hab
  exact hab
theorem sortL_mem (xs : List (Int × Int)) (x : Int × Int) : x ∈ sortL xs ↔ x ∈ xs := List.mem_mergeSort
theorem range_cmp (xs : List (Int × Int)) (m : Nat) (hm : m ≤ xs.length) (hs : xs.Pairwise fun x y => ¬ LtP y x) :
    (compactUpTo xs.toArray m).Pairwise LtP ∧ (∀ x, x ∈ compactUpTo xs.toArray m ↔ x ∈ xs.take m) := by
  induction m with
  | zero => simp [compactUpTo]
  | succ m ih =>
    obtain ⟨h1, h2⟩ := ih (by omega)
    have hml : m < xs.length := by omega
    have hx : xs.toArray[m]! = xs[m] := by rw [getElem!_pos xs.toArray m (by simpa using hml)]; simp
    have ht : xs.take (m + 1) = xs.take m ++ [xs[m]] := List.take_succ_eq_append_getElem hml
    have hlo : ∀ a ∈ xs.take m, ¬ LtP xs[m] a := by
      intro a ha
      obtain ⟨i, hi, e⟩ := List.getElem_of_mem ha
      rw [List.length_take] at hi
      rw [List.getElem_take] at e
      subst e
      exact List.pairwise_iff_getElem.1 hs i m (by omega) hml (by omega)
    rw [compactUpTo_succ, ht, hx]
    by_cases hk : keeps xs.toArray m = true
    · rw [if_pos hk]
      refine ⟨?_, fun x => by rw [List.mem_append, List.mem_append, h2]⟩
      rw [List.pairwise_append]
      refine ⟨h1, by simp, fun a ha b hb => ?_⟩
      rw [List.mem_singleton] at hb
      subst hb
      have ha2 := (h2 a).1 ha
      refine Decidable.byContradiction fun hc => ?_
      have e : a = xs[m] := LtP.conn hc (hlo a ha2)
      -- a is xs[m] and lies ahead: all between are it, so xs[m-1] is it
      simp only [keeps, decide_eq_true_eq] at hk
      rcases hk with hk | hk
      · subst hk; simp at ha2
      · apply hk
        rw [hx, getElem!_pos xs.toArray (m - 1) (by simp; omega)]
        obtain ⟨i, hi, e2⟩ := List.getElem_of_mem ha2
        rw [List.length_take] at hi
        rw [List.getElem_take] at e2
        have h0 : 0 < m := by omega
        by_cases him : i = m - 1
        · subst him; simp only [List.getElem_toArray]; rw [e2, e]
        · have p1 := List.pairwise_iff_getElem.1 hs i (m - 1) (by omega) (by omega) (by omega)
          have p2 := List.pairwise_iff_getElem.1 hs (m - 1) m (by omega) hml (by omega)
          rw [e2, e] at p1
          simp only [List.getElem_toArray]
          exact (LtP.conn p1 p2).symm
    · rw [if_neg hk, List.append_nil]
      refine ⟨h1, fun x => ?_⟩
      rw [h2, List.mem_append, List.mem_singleton]
      constructor
      · exact .inl
      · rintro (h | rfl)
        · exact h
        · simp only [keeps, decide_eq_true_eq, not_or, Decidable.not_not, ne_eq] at hk
          obtain ⟨h0, he⟩ := hk
          rw [hx, getElem!_pos xs.toArray (m - 1) (by simp; omega)] at he
          simp only [List.getElem_toArray] at he
          rw [he]
          exact List.mem_iff_getElem.2 ⟨m - 1, by rw [List.length_take]; omega, by rw [List.getElem_take]⟩
theorem sortD_strict (xs : List (Int × Int)) : (sortD xs).Pairwise LtP ∧ ∀ x, x ∈ sortD xs ↔ x ∈ xs := by
  obtain ⟨h1, h2⟩ := range_cmp (sortL xs) (sortL xs).length (Nat.le_refl _) (sortL_sorted xs)
  refine ⟨h1, fun x => ?_⟩
  show x ∈ compactUpTo (sortL xs).toArray (sortL xs).length ↔ _
  rw [h2, List.take_length, sortL_mem]
end
section
open Go.RowKit Go.Sort Go.Lib
set_option linter.unusedSimpArgs false
set_option linter.unusedVariables false

/-- How many of a rising list come ahead. -/
def cntD (x : Int × Int) : List (Int × Int) → Nat
  | [] => 0
  | y :: l => if LtP y x then cntD x l + 1 else 0
/-- One more, if it is not there. -/
def insD (x : Int × Int) (l : List (Int × Int)) : List (Int × Int) :=
  if l[cntD x l]? = some x then l else l.take (cntD x l) ++ x :: l.drop (cntD x l)
theorem cntD_le (x : Int × Int) : ∀ l, cntD x l ≤ l.length
  | [] => Nat.le_refl _
  | y :: l => by unfold cntD; split <;> have := cntD_le x l <;> simp <;> omega
theorem cntD_lt (x : Int × Int) : ∀ (l : List (Int × Int)) (i : Nat) (y : Int × Int), l[i]? = some y → i < cntD x l → LtP y x
  | [], i, y, h, _ => by simp at h
  | z :: l, 0, y, h, hi => by
    simp at h; subst h
    unfold cntD at hi
    split at hi
    · assumption
    · omega
  | z :: l, i + 1, y, h, hi => by
    unfold cntD at hi
    split at hi
    · exact cntD_lt x l i y (by simpa using h) (by omega)
    · omega
theorem cntD_at (x : Int × Int) : ∀ (l : List (Int × Int)) (y : Int × Int), l[cntD x l]? = some y → ¬ LtP y x
  | [], y, h => by simp at h
  | z :: l, y, h => by
    unfold cntD at h
    split at h
    · exact cntD_at x l y (by simpa using h)
    · simp at h; subst h; assumption
theorem insD_len (x : Int × Int) (l : List (Int × Int)) : (insD x l).length ≤ l.length + 1 := by
  unfold insD
  have := cntD_le x l
  split <;> simp <;> omega
theorem insD_mem (x y : Int × Int) (l : List (Int × Int)) : y ∈ insD x l ↔ y = x ∨ y ∈ l := by
  unfold insD
  split
  · rename_i h
    constructor
    · exact .inr
    · rintro (rfl | h2)
      · exact List.mem_of_getElem? h
      · exact h2
  · rw [List.mem_append, List.mem_cons]
    conv => rhs; rw [← List.take_append_drop (cntD x l) l, List.mem_append]
    constructor
    · rintro (h | h | h)
      · exact .inr (.inl h)
      · exact .inl h
      · exact .inr (.inr h)
    · rintro (h | h | h)
      · exact .inr (.inl h)
      · exact .inl h
      · exact .inr (.inr h)
theorem insD_strict (x : Int × Int) (l : List (Int × Int)) (h : l.Pairwise LtP) : (insD x l).Pairwise LtP := by
  unfold insD
  split
  · exact h
  · rename_i hne
    have hs : (l.take (cntD x l) ++ l.drop (cntD x l)).Pairwise LtP := by rw [List.take_append_drop]; exact h
    rw [List.pairwise_append] at hs ⊢
    obtain ⟨a, b, c⟩ := hs
    have hd : ∀ y ∈ l.drop (cntD x l), LtP x y := by
      cases hdr : l.drop (cntD x l) with
      | nil => simp
      | cons z r =>
        have hz : l[cntD x l]? = some z := by
          have := List.getElem?_drop (xs := l) (i := cntD x l) (j := 0)
          rw [hdr] at this
          simpa using this.symm
        have h1 := cntD_at x l z hz
        have hxz : LtP x z := Decidable.byContradiction fun hc => hne (by rw [hz, LtP.conn h1 hc])
        rw [hdr, List.pairwise_cons] at b
        intro y hy
        rcases List.mem_cons.1 hy with rfl | hy
        · exact hxz
        · exact hxz.tr (b.1 y hy)
    have ht : ∀ y ∈ l.take (cntD x l), LtP y x := by
      intro y hy
      obtain ⟨i, hi, e⟩ := List.getElem_of_mem hy
      rw [List.length_take] at hi
      rw [List.getElem_take] at e
      subst e
      exact cntD_lt x l i _ (List.getElem?_eq_getElem (by omega)) (by omega)
    refine ⟨a, ?_, ?_⟩
    · rw [List.pairwise_cons]; exact ⟨hd, b⟩
    · intro y hy z hz
      rcases List.mem_cons.1 hz with rfl | hz
      · exact ht y hy
      · exact c y hy z hz
/-- All of a list, one by one. -/
def insAll (xs : List (Int × Int)) : List (Int × Int) := xs.foldl (fun l x => insD x l) []
theorem insAll_snoc (xs : List (Int × Int)) (x : Int × Int) : insAll (xs ++ [x]) = insD x (insAll xs) := by simp [insAll]
theorem insAll_props (xs : List (Int × Int)) : (insAll xs).Pairwise LtP ∧ (∀ x, x ∈ insAll xs ↔ x ∈ xs) ∧ (insAll xs).length ≤ xs.length := by
  have : ∀ m : List (Int × Int), (insAll m.reverse).Pairwise LtP ∧ (∀ x, x ∈ insAll m.reverse ↔ x ∈ m.reverse) ∧ (insAll m.reverse).length ≤ m.length := by
    intro m
    induction m with
    | nil => simp [insAll]
    | cons y m ih =>
      rw [List.reverse_cons, insAll_snoc]
      refine ⟨insD_strict _ _ ih.1, fun x => ?_, ?_⟩
      · rw [insD_mem, ih.2.1, List.mem_append, List.mem_singleton]
        constructor
        · rintro (h | h); exact .inr h; exact .inl h
        · rintro (h | h); exact .inr h; exact .inl h
      · have := insD_len y (insAll m.reverse)
        simp; omega
  have h := this xs.reverse
  rw [List.reverse_reverse, List.length_reverse] at h
  exact h
theorem insAll_sortD (xs : List (Int × Int)) : insAll xs = sortD xs := by
  refine strict_ext (insAll_props xs).1 (sortD_strict xs).1 fun x => ?_
  rw [(insAll_props xs).2.1, (sortD_strict xs).2]
end
end Go.Proofs.Ytgafkphhnlifiaa
