/- Topologies, purely: what is told behind a change may be. -/
import Derived.Test.YtleioiihoplmaaaTochg0
namespace Go.Proofs.Ytleioiihoplmaaa
set_option linter.unusedSimpArgs false
set_option linter.unusedVariables false

theorem check_iff {t : List MemT} : checkT t = true ↔ 1 ≤ t.length ∧ t.length ≤ 200 ∧ RootT t ∧ ∀ n : Int, 2 ≤ n → n ≤ (t.length : Int) → ((memT t n).1 = 2 ∨ (memT t n).1 = 3) ∧ thereT t (memT t n).2.1 = true ∧ (memT t (memT t n).2.1).1 ≠ 3 ∧ ∃ f, (1 : Int) ∈ chainT t f n := by
  unfold checkT
  simp only [Bool.and_eq_true, decide_eq_true_eq, beq_iff_eq]
  constructor
  · rintro ⟨⟨⟨h1, h2⟩, h3⟩, h4⟩
    have hr : RootT t := h3
    refine ⟨h1, h2, hr, fun n n1 n2 => ?_⟩
    have := List.all_eq_true.1 h4 (n - 2).toNat (List.mem_range.2 (by omega))
    rw [show (((n - 2).toNat : Nat) : Int) + 2 = n by omega] at this
    unfold hangsT at this
    simp only [Bool.and_eq_true, Bool.or_eq_true, beq_iff_eq, Bool.not_eq_true', beq_eq_false_iff_ne] at this
    rw [way_chain hr, List.contains_iff_mem] at this
    exact ⟨this.1.1.1, this.1.1.2, this.1.2, _, this.2⟩
  · rintro ⟨h1, h2, hr, h4⟩
    refine ⟨⟨⟨h1, h2⟩, hr⟩, List.all_eq_true.2 fun i hi => ?_⟩
    have hi' := List.mem_range.1 hi
    obtain ⟨a, b, c, f, hf⟩ := h4 ((i : Int) + 2) (by omega) (by omega)
    unfold hangsT
    simp only [Bool.and_eq_true, Bool.or_eq_true, beq_iff_eq, Bool.not_eq_true', beq_eq_false_iff_ne]
    rw [way_chain hr, List.contains_iff_mem, chain_fits hr hf]
    exact ⟨⟨⟨a, b⟩, c⟩, hf⟩
theorem memT_set {t : List MemT} {k : Nat} {y : MemT} {x : Int} (hk : k < t.length) : memT (t.set k y) x = if (x - 1).toNat = k then y else memT t x := by
  unfold memT
  rw [List.getD_eq_getElem?_getD, List.getD_eq_getElem?_getD, List.getElem?_set]
  by_cases h : k = (x - 1).toNat
  · rw [if_pos h, if_pos h.symm, if_pos (h ▸ hk)]; rfl
  · rw [if_neg h, if_neg (fun e => h e.symm)]
theorem memT_app {t : List MemT} {y : MemT} {x : Int} (h : thereT t x = true) : memT (t ++ [y]) x = memT t x := by
  obtain ⟨h1, h2⟩ := there_iff.1 h
  unfold memT
  rw [List.getD_eq_getElem?_getD, List.getD_eq_getElem?_getD, List.getElem?_append_left (by omega)]
theorem memT_new {t : List MemT} {y : MemT} : memT (t ++ [y]) ((t.length : Int) + 1) = y := by
  unfold memT
  rw [List.getD_eq_getElem?_getD, show ((t.length : Int) + 1 - 1).toNat = t.length by omega]
  simp
theorem there_set {t : List MemT} {k : Nat} {y : MemT} {x : Int} : thereT (t.set k y) x = thereT t x := by unfold thereT; rw [List.length_set]
theorem there_app {t : List MemT} {y : MemT} {x : Int} (h : thereT t x = true) : thereT (t ++ [y]) x = true := by
  obtain ⟨h1, h2⟩ := there_iff.1 h
  exact there_iff.2 ⟨h1, by simp; omega⟩
theorem chain_keep {t m : List MemT} (H : ∀ x, thereT t x = true → thereT m x = true ∧ (memT m x).2.1 = (memT t x).2.1) : ∀ f x, (1 : Int) ∈ chainT t f x → (1 : Int) ∈ chainT m f x
  | 0, x, h => by simp [chainT] at h
  | f + 1, x, h => by
    rw [chainT_succ] at h ⊢
    by_cases ht : thereT t x = true
    · rw [if_pos ht] at h
      obtain ⟨a, b⟩ := H x ht
      rw [if_pos a, b]
      rcases List.mem_cons.1 h with e | h
      · exact List.mem_cons.2 (.inl e)
      · exact List.mem_cons.2 (.inr (chain_keep H f _ h))
    · rw [if_neg ht] at h; simp at h
theorem chain_avoid {t m : List MemT} {n : Int} (H : ∀ x, x ≠ n → thereT t x = true → thereT m x = true ∧ (memT m x).2.1 = (memT t x).2.1) (H0 : ∀ x, thereT t x = false → thereT m x = false) :
    ∀ f x, n ∉ chainT t f x → chainT m f x = chainT t f x
  | 0, x, _ => rfl
  | f + 1, x, h => by
    rw [chainT_succ] at h ⊢
    rw [chainT_succ t]
    by_cases ht : thereT t x = true
    · rw [if_pos ht] at h ⊢
      have hx : x ≠ n := fun e => h (List.mem_cons.2 (.inl e.symm))
      obtain ⟨a, b⟩ := H x hx ht
      rw [if_pos a, b, chain_avoid H H0 f _ (fun hm => h (List.mem_cons.2 (.inr hm)))]
    · rw [if_neg ht, if_neg (by rw [H0 x (by simpa using ht)]; decide)]
theorem chain_moved {t m : List MemT} {n up : Int} (H : ∀ x, x ≠ n → thereT t x = true → thereT m x = true ∧ (memT m x).2.1 = (memT t x).2.1) (hn : thereT m n = true) (hup : (memT m n).2.1 = up) (h1 : ∃ f, (1 : Int) ∈ chainT m f up) :
    ∀ f x, (1 : Int) ∈ chainT t f x → ∃ f', (1 : Int) ∈ chainT m f' x
  | 0, x, h => by simp [chainT] at h
  | f + 1, x, h => by
    by_cases hx : x = n
    · subst hx
      obtain ⟨f', hf⟩ := h1
      refine ⟨f' + 1, ?_⟩
      rw [chainT_succ, if_pos hn, hup]
      exact List.mem_cons.2 (.inr hf)
    · rw [chainT_succ] at h
      by_cases ht : thereT t x = true
      · rw [if_pos ht] at h
        obtain ⟨a, b⟩ := H x hx ht
        rcases List.mem_cons.1 h with e | h
        · refine ⟨1, ?_⟩
          rw [chainT_succ, if_pos a]
          exact List.mem_cons.2 (.inl e)
        · obtain ⟨f', hf⟩ := chain_moved H hn hup h1 f _ h
          refine ⟨f' + 1, ?_⟩
          rw [chainT_succ, if_pos a, b]
          exact List.mem_cons.2 (.inr hf)
      · rw [if_neg ht] at h; simp at h
theorem root_set {t : List MemT} {n : Int} {y : MemT} (h : RootT t) (hn : thereT t n = true) (h1 : n ≠ 1) : RootT (t.set (n - 1).toNat y) := by
  obtain ⟨a, b⟩ := there_iff.1 hn
  unfold RootT at h ⊢
  rw [List.getElem?_set, if_neg (by omega)]
  exact h
theorem root_one {t : List MemT} (h : RootT t) : memT t 1 = (1, 0, false) := by
  unfold memT
  rw [show ((1 : Int) - 1).toNat = 0 by decide, List.getD_eq_getElem?_getD, h]
  rfl
theorem check_enrol {t : List MemT} {kind up : Int} (h : checkT t = true) (hu : thereT t up = true) (hk : kind = 2 ∨ kind = 3) (h3 : (memT t up).1 ≠ 3) (hl : t.length < 200) : checkT (t ++ [(kind, up, false)]) = true := by
  obtain ⟨a1, a2, a3, a4⟩ := check_iff.1 h
  have K := chain_keep (t := t) (m := t ++ [(kind, up, false)]) (fun x hx => ⟨there_app hx, by rw [memT_app hx]⟩)
  refine check_iff.2 ⟨by simp, by simp; omega, ?_, fun n n1 n2 => ?_⟩
  · unfold RootT at a3 ⊢
    rw [List.getElem?_append_left (by omega)]
    exact a3
  · by_cases hn : n ≤ (t.length : Int)
    · have ht : thereT t n = true := there_iff.2 ⟨by omega, hn⟩
      obtain ⟨b1, b2, b3, f, b4⟩ := a4 n n1 hn
      rw [memT_app ht, memT_app b2]
      exact ⟨b1, there_app b2, b3, f, K f n b4⟩
    · obtain rfl : n = (t.length : Int) + 1 := by simp at n2; omega
      obtain ⟨_, _, hw⟩ := check_way h hu
      rw [memT_new]
      refine ⟨hk, there_app hu, by rw [memT_app hu]; exact h3, t.length + 1, ?_⟩
      rw [chainT_succ, if_pos (there_iff.2 ⟨by omega, by simp⟩), memT_new]
      exact List.mem_cons.2 (.inr (K _ _ hw))
theorem check_kill {t : List MemT} {n : Int} {d : Bool} (h : checkT t = true) (hn : thereT t n = true) (h1 : n ≠ 1) : checkT (t.set (n - 1).toNat ((memT t n).1, (memT t n).2.1, d)) = true := by
  obtain ⟨a1, a2, a3, a4⟩ := check_iff.1 h
  obtain ⟨n1, n2⟩ := there_iff.1 hn
  have M : ∀ x, thereT t x = true → (memT (t.set (n - 1).toNat ((memT t n).1, (memT t n).2.1, d)) x).1 = (memT t x).1 ∧ (memT (t.set (n - 1).toNat ((memT t n).1, (memT t n).2.1, d)) x).2.1 = (memT t x).2.1 := by
    intro x hx
    obtain ⟨x1, x2⟩ := there_iff.1 hx
    rw [memT_set (by omega)]
    split
    · obtain rfl : x = n := by omega
      exact ⟨rfl, rfl⟩
    · exact ⟨rfl, rfl⟩
  have K := chain_keep (t := t) (m := t.set (n - 1).toNat ((memT t n).1, (memT t n).2.1, d)) (fun x hx => ⟨by rw [there_set]; exact hx, (M x hx).2⟩)
  refine check_iff.2 ⟨by simpa using a1, by simpa using a2, root_set a3 hn h1, fun x x1 x2 => ?_⟩
  have hx : thereT t x = true := there_iff.2 ⟨by omega, by simpa using x2⟩
  obtain ⟨b1, b2, b3, f, b4⟩ := a4 x x1 (by simpa using x2)
  rw [(M x hx).1, (M x hx).2, there_set, (M _ b2).1]
  exact ⟨b1, b2, b3, f, K f x b4⟩
theorem moved_mem {t : List MemT} {n up : Int} {d : Bool} (hn : thereT t n = true) : (∀ x, x ≠ n → thereT t x = true → memT (t.set (n - 1).toNat ((memT t n).1, up, d)) x = memT t x) ∧ memT (t.set (n - 1).toNat ((memT t n).1, up, d)) n = ((memT t n).1, up, d) := by
  obtain ⟨n1, n2⟩ := there_iff.1 hn
  refine ⟨fun x hne hx => ?_, ?_⟩
  · obtain ⟨x1, x2⟩ := there_iff.1 hx
    rw [memT_set (by omega), if_neg (by omega)]
  · rw [memT_set (by omega), if_pos rfl]
theorem check_move {t : List MemT} {n up : Int} {d : Bool} (h : checkT t = true) (hn : thereT t n = true) (hu : thereT t up = true) (h1 : n ≠ 1) (h3 : (memT t up).1 ≠ 3) (hw : n ∉ wayT t t.length up) :
    checkT (t.set (n - 1).toNat ((memT t n).1, up, d)) = true := by
  obtain ⟨a1, a2, a3, a4⟩ := check_iff.1 h
  obtain ⟨n1, n2⟩ := there_iff.1 hn
  obtain ⟨M1, M2⟩ := moved_mem (t := t) (n := n) (up := up) (d := d) hn
  have M0 : ∀ x, thereT t x = true → (memT (t.set (n - 1).toNat ((memT t n).1, up, d)) x).1 = (memT t x).1 := by
    intro x hx
    by_cases e : x = n
    · subst e; rw [M2]
    · rw [M1 x e hx]
  have H : ∀ x, x ≠ n → thereT t x = true → thereT (t.set (n - 1).toNat ((memT t n).1, up, d)) x = true ∧ (memT (t.set (n - 1).toNat ((memT t n).1, up, d)) x).2.1 = (memT t x).2.1 := fun x hne hx => ⟨by rw [there_set]; exact hx, by rw [M1 x hne hx]⟩
  obtain ⟨_, _, hc⟩ := check_way h hu
  have hw' : n ∉ chainT t t.length up := by rwa [way_chain a3] at hw
  have hup : ∃ f, (1 : Int) ∈ chainT (t.set (n - 1).toNat ((memT t n).1, up, d)) f up := ⟨t.length, by rw [chain_avoid H (fun x hx => by rw [there_set]; exact hx) _ _ hw']; exact hc⟩
  have K := chain_moved H (by rw [there_set]; exact hn) (by rw [M2]) hup
  refine check_iff.2 ⟨by simpa using a1, by simpa using a2, root_set a3 hn h1, fun x x1 x2 => ?_⟩
  have hx : thereT t x = true := there_iff.2 ⟨by omega, by simpa using x2⟩
  obtain ⟨b1, b2, b3, f, b4⟩ := a4 x x1 (by simpa using x2)
  by_cases e : x = n
  · subst e
    rw [M2, there_set, M0 up hu]
    exact ⟨b1, hu, h3, K f x b4⟩
  · rw [M1 x e hx, there_set, M0 _ b2]
    exact ⟨b1, b2, b3, K f x b4⟩

/-- What an act makes of a topology. -/
abbrev ActT := Int × Int × Int × Int
def doesT (t : List MemT) (x : ActT) : List MemT × Int :=
  if x.1 = 0 ∨ x.1 = 1 then (if (enrolR t x.2.1 x.2.2.2).2.2 = 0 then ((enrolR t x.2.1 x.2.2.2).1, 0) else (t, (enrolR t x.2.1 x.2.2.2).2.2))
  else if x.1 = 2 then (if (killR t x.2.2.1).2 = 0 then ((killR t x.2.2.1).1, 0) else (t, (killR t x.2.2.1).2))
  else if x.1 = 3 then (if (moveR t x.2.2.1 x.2.2.2).2 = 0 then ((moveR t x.2.2.1 x.2.2.2).1, 0) else (t, (moveR t x.2.2.1 x.2.2.2).2))
  else (t, 0)
def KeepT (t m : List MemT) : Prop := t.length ≤ m.length ∧ m.length ≤ t.length + 1 ∧ ∀ (k : Nat) (x : MemT), t[k]? = some x → ∃ y : MemT, m[k]? = some y ∧ y.1 = x.1 ∧ (x.2.2 = true → y.2.2 = true)
theorem KeepT.refl (t : List MemT) : KeepT t t := ⟨Nat.le_refl _, by omega, fun k x h => ⟨x, h, rfl, id⟩⟩
theorem keep_set {t : List MemT} {n : Int} {up : Int} {d : Bool} (hn : thereT t n = true) (hd : (memT t n).2.2 = true → d = true) : KeepT t (t.set (n - 1).toNat ((memT t n).1, up, d)) := by
  refine ⟨by simp, by simp, fun k x h => ?_⟩
  rw [List.getElem?_set]
  have hl := (List.getElem?_eq_some_iff.1 h).1
  by_cases e : (n - 1).toNat = k
  · have hm := (there_at hn).2.2.2.2
    rw [e, h] at hm
    rw [if_pos e, if_pos (show (n - 1).toNat < t.length by omega)]
    cases hm
    exact ⟨_, rfl, rfl, hd⟩
  · rw [if_neg e]
    exact ⟨x, h, rfl, id⟩
theorem keep_app (t : List MemT) (y : MemT) : KeepT t (t ++ [y]) := ⟨by simp, by simp, fun k x h => ⟨x, by rw [List.getElem?_append_left (List.getElem?_eq_some_iff.1 h).1]; exact h, rfl, id⟩⟩
theorem enrol_ok {t : List MemT} {kind up : Int} (h : (enrolR t kind up).2.2 = 0) : (thereT t up = true ∧ checkT t = true) ∧ (kind = 2 ∨ kind = 3) ∧ (memT t up).1 ≠ 3 ∧ (memT t up).2.2 = false ∧ t.length ≠ 200 ∧ (enrolR t kind up).1 = t ++ [(kind, up, false)] := by
  unfold enrolR at h ⊢
  split at h
  · simp at h
  · split at h
    · simp at h
    · split at h
      · simp at h
      · split at h
        · simp at h
        · split at h
          · simp at h
          · rename_i a b c d e
            simp only [Bool.not_eq_true', Bool.not_eq_false, Bool.not_eq_true, Bool.and_eq_true, Bool.or_eq_true, beq_iff_eq, Bool.not_eq_false'] at a b c d e
            rw [if_neg (by simp [a]), if_neg (by rcases b with rfl | rfl <;> decide), if_neg (by simpa using c), if_neg (by simp [d]), if_neg (by simpa using e)]
            exact ⟨a, b, c, d, e, rfl⟩
theorem kill_ok {t : List MemT} {n : Int} (h : (killR t n).2 = 0) : (thereT t n = true ∧ checkT t = true) ∧ n ≠ 1 ∧ (memT t n).2.2 = false ∧ (killR t n).1 = t.set (n - 1).toNat ((memT t n).1, (memT t n).2.1, true) := by
  unfold killR at h ⊢
  split at h
  · simp at h
  · split at h
    · simp at h
    · split at h
      · simp at h
      · rename_i a b c
        simp only [Bool.not_eq_true', Bool.not_eq_false, Bool.not_eq_true, Bool.and_eq_true, beq_iff_eq, Bool.not_eq_false'] at a b c
        rw [if_neg (by simp [a]), if_neg (by simpa using b), if_neg (by simp [c])]
        exact ⟨a, b, c, rfl⟩
theorem move_ok {t : List MemT} {n up : Int} (h : (moveR t n up).2 = 0) : (thereT t n = true ∧ thereT t up = true ∧ checkT t = true) ∧ n ≠ 1 ∧ (memT t n).2.2 = false ∧ (memT t up).2.2 = false ∧ (memT t up).1 ≠ 3 ∧ n ∉ wayT t t.length up ∧ (moveR t n up).1 = t.set (n - 1).toNat ((memT t n).1, up, (memT t n).2.2) := by
  unfold moveR at h ⊢
  split at h
  · simp at h
  · split at h
    · simp at h
    · split at h
      · simp at h
      · split at h
        · simp at h
        · split at h
          · simp at h
          · rename_i a b c d e
            simp only [Bool.not_eq_true', Bool.not_eq_false, Bool.not_eq_true, Bool.and_eq_true, Bool.or_eq_true, beq_iff_eq, Bool.not_eq_false', not_or, List.contains_iff_mem] at a b c d e
            rw [if_neg (by simp [a]), if_neg (by simpa using b), if_neg (by simp [c]), if_neg (by simpa using d), if_neg (by simpa using e)]
            exact ⟨⟨a.1.1, a.1.2, a.2⟩, b, c.1, c.2, d, e, rfl⟩
theorem does_ok {t : List MemT} (h : checkT t = true) (x : ActT) : checkT (doesT t x).1 = true ∧ KeepT t (doesT t x).1 := by
  have hl := check_len h
  unfold doesT
  split
  · split
    · rename_i e
      obtain ⟨⟨a1, a2⟩, a3, a4, a5, a6, a7⟩ := enrol_ok e
      rw [a7]
      exact ⟨check_enrol h a1 a3 a4 (by omega), keep_app _ _⟩
    · exact ⟨h, .refl t⟩
  · split
    · split
      · rename_i e
        obtain ⟨⟨a1, a2⟩, a3, a4, a5⟩ := kill_ok e
        rw [a5]
        exact ⟨check_kill h a1 a3, keep_set a1 (fun _ => rfl)⟩
      · exact ⟨h, .refl t⟩
    · split
      · split
        · rename_i e
          obtain ⟨⟨a1, a2, a3⟩, a4, a5, a6, a7, a8, a9⟩ := move_ok e
          rw [a9]
          exact ⟨check_move h a1 a2 a4 a7 a8, keep_set a1 (fun e => e)⟩
        · exact ⟨h, .refl t⟩
      · exact ⟨h, .refl t⟩
def actsT (l : List ActT) : List MemT := l.foldl (fun t a => (doesT t a).1) [(1, 0, false)]
theorem acts_snoc (l : List ActT) (a : ActT) : actsT (l ++ [a]) = (doesT (actsT l) a).1 := by simp [actsT]
theorem acts_from : ∀ (l : List ActT) (t : List MemT), checkT t = true → checkT (l.foldl (fun t a => (doesT t a).1) t) = true ∧ (l.foldl (fun t a => (doesT t a).1) t).length ≤ t.length + l.length
  | [], t, h => ⟨h, by simp⟩
  | a :: l, t, h => by
    obtain ⟨h1, h2⟩ := does_ok h a
    obtain ⟨h3, h4⟩ := acts_from l _ h1
    refine ⟨h3, ?_⟩
    have := h2.2.1
    rw [List.foldl_cons, List.length_cons]
    omega
theorem acts_ok (l : List ActT) : checkT (actsT l) = true ∧ (actsT l).length ≤ l.length + 1 := by
  obtain ⟨h1, h2⟩ := acts_from l [(1, 0, false)] (by decide)
  exact ⟨h1, by unfold actsT; simp at h2; omega⟩
/-- One moved, and moved back. -/
theorem move_back {t : List MemT} {n up : Int} (h : (moveR t n up).2 = 0) :
    moveR (t.set (n - 1).toNat ((memT t n).1, up, (memT t n).2.2)) n (memT t n).2.1 = if (memT t (memT t n).2.1).2.2 then ([], 14) else (t, 0) := by
  obtain ⟨⟨a1, a2, a3⟩, a4, a5, a6, a7, a8, a9⟩ := move_ok h
  obtain ⟨c1, c2, c3, c4⟩ := check_iff.1 a3
  obtain ⟨n1, n2⟩ := there_iff.1 a1
  obtain ⟨b1, b2, b3, f, b4⟩ := c4 n (by omega) n2
  obtain ⟨M1, M2⟩ := moved_mem (t := t) (n := n) (up := up) (d := (memT t n).2.2) a1
  have hc := check_move (d := (memT t n).2.2) a3 a1 a2 a4 a7 a8
  have hnu : n ∉ chainT t t.length (memT t n).2.1 := by
    intro hm
    have hk := chain_nodup c3 (n := n) (f := t.length + 1) (by obtain ⟨_, hw, h1⟩ := check_way a3 a1; rw [chain_more c3 h1 (t.length + 1) (by omega)]; exact h1)
    rw [chainT_succ, if_pos a1] at hk
    exact (List.nodup_cons.1 hk).1 hm
  have hne : (memT t n).2.1 ≠ n := by
    intro e
    apply hnu
    obtain ⟨k, hk⟩ : ∃ k, t.length = k + 1 := ⟨t.length - 1, by omega⟩
    rw [hk, chainT_succ, if_pos b2]
    exact List.mem_cons.2 (.inl e.symm)
  have H : ∀ x, x ≠ n → thereT t x = true → thereT (t.set (n - 1).toNat ((memT t n).1, up, (memT t n).2.2)) x = true ∧ (memT (t.set (n - 1).toNat ((memT t n).1, up, (memT t n).2.2)) x).2.1 = (memT t x).2.1 := fun x hne hx => ⟨by rw [there_set]; exact hx, by rw [M1 x hne hx]⟩
  have hcr : RootT (t.set (n - 1).toNat ((memT t n).1, up, (memT t n).2.2)) := (check_iff.1 hc).2.2.1
  have hav := chain_avoid H (fun x hx => by rw [there_set]; exact hx) _ _ hnu
  have hcl : (wayT (t.set (n - 1).toNat ((memT t n).1, up, (memT t n).2.2)) t.length (memT t n).2.1).contains n = false := by
    rw [way_chain hcr, hav]
    simpa using hnu
  unfold moveR
  rw [there_set, there_set, a1, b2, hc, M1 _ hne b2, M2]
  simp only [List.length_set, hcl]
  simp only [a5, List.set_set]
  have e2 : (n == 1) = false := by simpa using a4
  have e3 : ((memT t (memT t n).2.1).1 == 3) = false := by simpa using b3
  rw [e2, e3]
  cases hd : (memT t (memT t n).2.1).2.2 with
  | true => simp
  | false =>
    have hself : t.set (n - 1).toNat ((memT t n).1, (memT t n).2.1, false) = t := by
      have hm := (there_at a1).2.2.2.2
      apply List.ext_getElem?
      intro i
      rw [List.getElem?_set]
      split
      · rename_i e
        subst e
        rw [if_pos (by omega), hm]
        congr 1
        rw [← a5]
      · rfl
    rw [hself]
    rfl
theorem move_may {t : List MemT} {n up : Int} (h : checkT t = true) (hn : thereT t n = true) (hu : thereT t up = true) :
    (moveR t n up).2 = 0 ↔ (n ≠ 1 ∧ (memT t n).2.2 = false ∧ (memT t up).2.2 = false ∧ (memT t up).1 ≠ 3 ∧ n ∉ wayT t t.length up) := by
  constructor
  · intro e
    obtain ⟨_, a4, a5, a6, a7, a8, _⟩ := move_ok e
    exact ⟨a4, a5, a6, a7, a8⟩
  · rintro ⟨a4, a5, a6, a7, a8⟩
    unfold moveR
    have e2 : (n == 1) = false := by simpa using a4
    have e3 : ((memT t up).1 == 3) = false := by simpa using a7
    have e4 : (wayT t t.length up).contains n = false := by simpa using a8
    simp only [hn, hu, h, e2, a5, a6, e3, e4]
    rfl
theorem move_none {t : List MemT} {n up : Int} (h : (moveR t n up).2 ≠ 0) : (moveR t n up).1 = [] := by
  unfold moveR at h ⊢
  split
  · rfl
  · split
    · rfl
    · split
      · rfl
      · split
        · rfl
        · split
          · rfl
          · rename_i a b c d e
            rw [if_neg a, if_neg b, if_neg c, if_neg d, if_neg e] at h
            exact absurd rfl h
theorem under_mem {t : List MemT} {n x : Int} : x ∈ underT t n ↔ thereT t x = true ∧ (memT t x).2.1 = n := by
  unfold underT accT
  simp only [List.mem_map, List.mem_filter, List.mem_range, beq_iff_eq]
  constructor
  · rintro ⟨i, ⟨hi, e⟩, rfl⟩
    exact ⟨there_succ hi, e⟩
  · rintro ⟨hx, e⟩
    obtain ⟨h1, h2⟩ := there_iff.1 hx
    refine ⟨(x - 1).toNat, ⟨by omega, ?_⟩, by omega⟩
    rw [show (((x - 1).toNat : Nat) : Int) + 1 = x by omega]
    exact e
theorem live_mem {t : List MemT} {x : Int} (h : checkT t = true) : x ∈ liveT t ↔ thereT t x = true ∧ deadT t x = false := by
  unfold liveT accT
  rw [if_pos h]
  simp only [List.mem_map, List.mem_filter, List.mem_range, Bool.not_eq_true']
  constructor
  · rintro ⟨i, ⟨hi, e⟩, rfl⟩
    exact ⟨there_succ hi, e⟩
  · rintro ⟨hx, e⟩
    obtain ⟨h1, h2⟩ := there_iff.1 hx
    refine ⟨(x - 1).toNat, ⟨by omega, ?_⟩, by omega⟩
    rw [show (((x - 1).toNat : Nat) : Int) + 1 = x by omega]
    exact e
/-- One and the next of a way: the next is right above. -/
theorem chain_next {t : List MemT} : ∀ {f : Nat} {n : Int} {i : Nat} {x y : Int}, (chainT t f n)[i]? = some x → (chainT t f n)[i + 1]? = some y → (memT t x).2.1 = y
  | 0, n, i, x, y, h, _ => by simp [chainT] at h
  | f + 1, n, i, x, y, h, h2 => by
    rw [chainT_succ] at h h2
    by_cases ht : thereT t n = true
    · rw [if_pos ht] at h h2
      cases i with
      | zero =>
        simp at h h2
        subst h
        cases f with
        | zero => simp [chainT] at h2
        | succ f =>
          rw [chainT_succ] at h2
          split at h2
          · simpa using h2
          · simp at h2
      | succ i => exact chain_next (i := i) (by simpa using h) (by simpa using h2)
    · rw [if_neg ht] at h; simp at h
theorem chain_head {t : List MemT} {f : Nat} {n : Int} (h : (chainT t f n) ≠ []) : (chainT t f n)[0]? = some n := by
  cases f with
  | zero => exact absurd rfl h
  | succ f =>
    rw [chainT_succ] at h ⊢
    split
    · rfl
    · rename_i e; rw [if_neg e] at h; exact absurd rfl h
end Go.Proofs.Ytleioiihoplmaaa
