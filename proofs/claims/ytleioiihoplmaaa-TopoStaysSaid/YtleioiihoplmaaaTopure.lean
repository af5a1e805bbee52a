/- Topologies: the way up, purely: no memory here, no function of the program. -/
import Derived.Test.YtleioiihoplmaaaBase
namespace Go.Proofs.Ytleioiihoplmaaa
set_option linter.unusedSimpArgs false
set_option linter.unusedVariables false
abbrev MemT := Int × Int × Bool
def thereT (t : List MemT) (n : Int) : Bool := decide (1 ≤ n) && decide (n ≤ (t.length : Int))
def memT (t : List MemT) (n : Int) : MemT := t.getD (n - 1).toNat (0, 0, false)
/-- A node, and those above it, at most so many. -/
def chainT (t : List MemT) : Nat → Int → List Int
  | 0, _ => []
  | f + 1, n => if thereT t n then n :: chainT t f (memT t n).2.1 else []
/-- The same, ending behind the root. -/
def wayT (t : List MemT) : Nat → Int → List Int
  | 0, _ => []
  | f + 1, n => if thereT t n then n :: (if n = 1 then [] else wayT t f (memT t n).2.1) else []
def RootT (t : List MemT) : Prop := t[0]? = some (1, 0, false)
theorem there_iff {t : List MemT} {n : Int} : thereT t n = true ↔ 1 ≤ n ∧ n ≤ (t.length : Int) := by simp [thereT]
theorem chain_none {t : List MemT} {n : Int} (h : thereT t n = false) (f : Nat) : chainT t f n = [] := by
  cases f with
  | zero => rfl
  | succ f => simp [chainT, h]
theorem way_none {t : List MemT} {n : Int} (h : thereT t n = false) (f : Nat) : wayT t f n = [] := by
  cases f with
  | zero => rfl
  | succ f => simp [wayT, h]
theorem root_up {t : List MemT} (h : RootT t) : (memT t 1).2.1 = 0 := by
  unfold memT
  rw [show ((1 : Int) - 1).toNat = 0 by decide, List.getD_eq_getElem?_getD, h]
  rfl
theorem there_zero (t : List MemT) : thereT t 0 = false := by simp [thereT]
theorem way_chain {t : List MemT} (h : RootT t) : ∀ f n, wayT t f n = chainT t f n
  | 0, n => rfl
  | f + 1, n => by
    unfold wayT chainT
    by_cases ht : thereT t n = true
    · rw [if_pos ht, if_pos ht]
      by_cases h1 : n = 1
      · subst h1
        rw [if_pos rfl, root_up h, chain_none (there_zero t)]
      · rw [if_neg h1, way_chain h f]
    · rw [if_neg ht, if_neg ht]
theorem chain_len (t : List MemT) : ∀ f n, (chainT t f n).length ≤ f
  | 0, n => by simp [chainT]
  | f + 1, n => by
    unfold chainT
    split
    · have := chain_len t f (memT t n).2.1; simp; omega
    · simp
theorem chain_there {t : List MemT} {x : Int} : ∀ {f n}, x ∈ chainT t f n → thereT t x = true
  | 0, n, h => by simp [chainT] at h
  | f + 1, n, h => by
    unfold chainT at h
    split at h
    · rename_i ht
      rcases List.mem_cons.1 h with rfl | h
      · exact ht
      · exact chain_there h
    · simp at h
/-- A way that comes to the root is not longer with more room. -/
theorem chain_more {t : List MemT} (hr : RootT t) : ∀ {f n}, (1 : Int) ∈ chainT t f n → ∀ f', f ≤ f' → chainT t f' n = chainT t f n
  | 0, n, h, _, _ => by simp [chainT] at h
  | f + 1, n, h, f', hf => by
    obtain ⟨g, rfl⟩ : ∃ g, f' = g + 1 := ⟨f' - 1, by omega⟩
    unfold chainT at h ⊢
    split at h
    · rename_i ht
      by_cases h1 : n = 1
      · subst h1
        rw [root_up hr, chain_none (there_zero t), chain_none (there_zero t)]
      · rcases List.mem_cons.1 h with h2 | h2
        · exact absurd h2.symm h1
        · rw [chain_more hr h2 g (by omega)]
    · simp at h
/-- With room for just what it has, it is the same. -/
theorem chain_exact {t : List MemT} : ∀ (f : Nat) (n : Int), chainT t (chainT t f n).length n = chainT t f n
  | 0, n => rfl
  | f + 1, n => by
    by_cases ht : thereT t n = true
    · have e : chainT t (f + 1) n = n :: chainT t f (memT t n).2.1 := by rw [chainT, if_pos ht]
      rw [e, List.length_cons, chainT, if_pos ht, chain_exact f]
    · have e : chainT t (f + 1) n = [] := by rw [chainT, if_neg ht]
      rw [e]; rfl
/-- What stands on a way is the beginning of a way that is not longer. -/
theorem chain_mem {t : List MemT} {x : Int} : ∀ {f n}, x ∈ chainT t f n → ∃ g, g ≤ f ∧ (chainT t g x).length ≤ (chainT t f n).length ∧ chainT t g x <:+ chainT t f n ∧ chainT t g x ≠ []
  | 0, n, h => by simp [chainT] at h
  | f + 1, n, h => by
    by_cases ht : thereT t n = true
    · have e : chainT t (f + 1) n = n :: chainT t f (memT t n).2.1 := by rw [chainT, if_pos ht]
      rw [e] at h
      rcases List.mem_cons.1 h with rfl | h
      · exact ⟨f + 1, Nat.le_refl _, Nat.le_refl _, List.suffix_refl _, by rw [e]; simp⟩
      · obtain ⟨g, h1, h2, h3, h4⟩ := chain_mem h
        refine ⟨g, by omega, by rw [e, List.length_cons]; omega, ?_, h4⟩
        rw [e]
        exact h3.trans (List.suffix_cons _ _)
    · rw [chainT, if_neg ht] at h; simp at h
/-- The root is the last of a way that it is on. -/
theorem chain_last {t : List MemT} (hr : RootT t) : ∀ {f n}, (1 : Int) ∈ chainT t f n → (chainT t f n).getLast? = some 1
  | 0, n, h => by simp [chainT] at h
  | f + 1, n, h => by
    by_cases ht : thereT t n = true
    · have e : chainT t (f + 1) n = n :: chainT t f (memT t n).2.1 := by rw [chainT, if_pos ht]
      rw [e] at h ⊢
      by_cases h1 : n = 1
      · subst h1
        rw [root_up hr, chain_none (there_zero t)]
        rfl
      · rcases List.mem_cons.1 h with h2 | h2
        · exact absurd h2.symm h1
        · have := chain_last hr h2
          cases hc : chainT t f (memT t n).2.1 with
          | nil => rw [hc] at h2; simp at h2
          | cons y r => rw [List.getLast?_cons_cons, ← hc]; exact this
    · rw [chainT, if_neg ht] at h; simp at h
theorem chain_nodup {t : List MemT} (hr : RootT t) : ∀ {f n}, (1 : Int) ∈ chainT t f n → (chainT t f n).Nodup
  | 0, n, h => by simp [chainT] at h
  | f + 1, n, h => by
    by_cases ht : thereT t n = true
    · have e : chainT t (f + 1) n = n :: chainT t f (memT t n).2.1 := by rw [chainT, if_pos ht]
      have h0 := h
      rw [e] at h ⊢
      by_cases h1 : n = 1
      · subst h1
        rw [root_up hr, chain_none (there_zero t)]
        simp
      · rcases List.mem_cons.1 h with h2 | h2
        · exact absurd h2.symm h1
        · refine List.nodup_cons.2 ⟨fun hm => ?_, chain_nodup hr h2⟩
          obtain ⟨g, g1, g2, g3, g4⟩ := chain_mem hm
          have hl := chain_last hr h2
          have hs : (1 : Int) ∈ chainT t g n := by
            obtain ⟨p, hp⟩ := g3
            have hl2 : (chainT t g n).getLast? = some 1 := by
              rw [← hp, List.getLast?_append] at hl
              cases hc : (chainT t g n).getLast? with
              | none => exact absurd (List.getLast?_eq_none_iff.1 hc) g4
              | some y => rw [hc] at hl; simpa using hl
            exact List.mem_of_getLast? hl2
          have := chain_more hr hs (f + 1) (by omega)
          rw [e] at this
          have hh := congrArg List.length this
          rw [List.length_cons] at hh
          omega
    · rw [chainT, if_neg ht] at h; simp at h
theorem nodup_short : ∀ (m : Nat) (l : List Int), l.Nodup → (∀ x ∈ l, 1 ≤ x ∧ x ≤ (m : Int)) → l.length ≤ m
  | 0, l, _, h => by
    cases l with
    | nil => simp
    | cons x l => have := h x (by simp); omega
  | m + 1, l, hn, h => by
    have h2 := nodup_short m (l.filter (fun x => x != ((m + 1 : Nat) : Int))) (hn.filter _) (fun x hx => by
      rw [List.mem_filter] at hx
      have := h x hx.1
      have h3 : x ≠ ((m + 1 : Nat) : Int) := by simpa using hx.2
      omega)
    have h3 : l.length ≤ (l.filter (fun x => x != ((m + 1 : Nat) : Int))).length + 1 := by
      have e1 := List.length_eq_countP_add_countP (fun x : Int => x != ((m + 1 : Nat) : Int)) (l := l)
      have e2 : List.countP (fun a => decide ¬(a != ((m + 1 : Nat) : Int)) = true) l = l.count ((m + 1 : Nat) : Int) := by
        rw [List.count]
        congr 1
        funext a
        rw [Bool.eq_iff_iff]
        simp [bne]
      have e3 : l.count ((m + 1 : Nat) : Int) ≤ 1 := List.nodup_iff_count.1 hn _
      rw [← List.countP_eq_length_filter]
      omega
    omega
/-- A way to the root has room in as many as there are. -/
theorem chain_room {t : List MemT} (hr : RootT t) {f : Nat} {n : Int} (h : (1 : Int) ∈ chainT t f n) : (chainT t f n).length ≤ t.length :=
  nodup_short t.length _ (chain_nodup hr h) fun x hx => there_iff.1 (chain_there hx)
theorem chain_fits {t : List MemT} (hr : RootT t) {f : Nat} {n : Int} (h : (1 : Int) ∈ chainT t f n) : chainT t t.length n = chainT t f n := by
  have h1 := chain_exact (t := t) f n
  have h2 := chain_room hr h
  have h3 : (1 : Int) ∈ chainT t (chainT t f n).length n := by rw [h1]; exact h
  rw [chain_more hr h3 t.length h2, h1]
end Go.Proofs.Ytleioiihoplmaaa
