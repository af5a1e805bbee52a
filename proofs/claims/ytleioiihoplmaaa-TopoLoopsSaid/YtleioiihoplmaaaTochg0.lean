/- Topologies: Enrol, Kill on both sides. -/
import Derived.Test.YtleioiihoplmaaaTolaw
import Derived.Deep.Cut
namespace Go.Proofs.Ytleioiihoplmaaa
open Go.RowKit
set_option linter.unusedSimpArgs false
set_option linter.unusedVariables false



theorem RdK.none_nil {α : Type} {R : RowTy α} {w : World} {n : Nat} {xs : List α} (h : RdK R w none n xs) : xs = [] := by
  cases xs with
  | nil => rfl
  | cons y ys =>
    have : 0 < (R.flat (y :: ys)).length := by rw [R.flat_len, List.length_cons]; exact Nat.mul_pos (by omega) R.kpos
    obtain ⟨a, h, _⟩ := h.cells 0 _ (List.getElem?_eq_getElem this); cases h
set_option maxRecDepth 100000 in
set_option maxHeartbeats 1000000 in
theorem clonemem_any (w : World) (A : Option Addr) (n c : Nat) (xs : List (Int × Int × Bool)) (h : RdK memTy w A n xs) (hn : n * 400 ≤ 140737488355327) :
    Calls Try.prog 35 #[.slice A n c] w fun e w' => ∃ A' c', e = .returned (.slice A' n c') ∧ OwnK memTy w' A' c' xs ∧ (∀ a, A' = some a → w.heap.size ≤ a.block) ∧ Chg [] w w' := by
  have heq := fun W => Lib.run_eql_slice_nil (P := Try.prog) W 22 50 A n c 0 0 Try.underlying22
  cases A with
  | none =>
    have hx := h.none_nil
    subst hx
    have hl : n = 0 := h.len.symm
    subst hl
    clear h
    go_enter Try.func35, Try.ntmps35
    go_wp2
    go_ret
    exact ⟨none, 0, rfl, OwnK.none_ _, by simp, Chg.refl _ _⟩
  | some ad =>
    obtain ⟨w1, hw1, c1, b1⟩ := news1 w (.cells #[] 50)
    have W1 := Lib.hid hw1
    have HA := Lib.hid (h.chg c1 (by simp))
    have HO : Hid (OwnK memTy w1 (some ⟨w.heap.size, 0, none⟩) 0 []) := Lib.hid (.of (full := []) b1 (Nat.le_refl _) (Nat.zero_le _) rfl rfl)
    have C1 := Lib.hid c1
    have HN : Hid ((0 + n) * 400 ≤ 140737488355327) := Lib.hid (by rw [Nat.zero_add]; exact hn)
    clear hw1 c1 b1 h hn
    go_enter Try.func35, Try.ntmps35
    go_wp2_with (at_builtin; rw [← W1.out]; refine wpList_appK rfl _ _ rfl rfl HO.out rfl rfl HA.out HN.out ?_; intro A2 c2 w2 u2 d2 e2)
    go_ret
    rw [Nat.zero_add] at *
    have hA2 : ∀ a, A2 = some a → w.heap.size ≤ a.block := by
      rintro a rfl
      rcases e2 with h | h
      · cases h; exact Nat.le_refl _
      · cases h; exact C1.out.size
    exact ⟨A2, c2, by simp, by simpa using u2, hA2, C1.out.grown d2 (fun k hk => by simp at hk; subst hk; exact .inr (Nat.le_refl _))⟩


theorem OwnK.put1 {α : Type} {R : RowTy α} {w : World} {g c k i : Nat} {xs : List α} {x y : α} {v : Value} (h : OwnK R w (some ⟨g, 0, none⟩) c xs) (hk : xs[k]? = some x) (hi : i < R.k) (hy : R.enc y = (R.enc x).set i v) :
    OwnK R (w.setCell ⟨g, k * R.k + i, none⟩ v) (some ⟨g, 0, none⟩) c (xs.set k y) := by
  rcases h with ⟨h, _⟩ | ⟨g', full, h, hg, hl, hm, hn, ht⟩
  · cases h
  · cases h
    have hkl := (List.getElem?_eq_some_iff.1 hk).1
    have hfk : full[k]? = some x := by
      rw [← hk]
      conv => rhs; rw [← ht]
      rw [List.getElem?_take, if_pos hkl]
    have hfl := (List.getElem?_eq_some_iff.1 hfk).1
    refine .inr ⟨g, full.set k y, rfl, ?_, by rw [List.length_set]; exact hl, hm, by rw [List.length_set]; exact hn, ?_⟩
    · have hs := heap_setCell_same w g (k * R.k + i) _ _ v hg
      rw [hs]
      congr 2
      apply Array.toList_inj.1
      refine R.flat_ext _ (full.set k y) (by simp [RowTy.flat_len]) ?_
      intro q j z hz hj
      simp only [Array.toList_setIfInBounds, List.getElem?_set, RowTy.flat_len]
      rw [List.getElem?_set] at hz
      by_cases hq : k = q
      · subst hq
        simp [hfl] at hz
        subst hz
        have e1 := R.flat_at full k j x hfk hj
        by_cases hij : i = j
        · subst hij
          have hb : k * R.k + i < full.length * R.k := by
            have := Nat.mul_le_mul_right R.k (show k + 1 ≤ full.length by omega)
            rw [Nat.succ_mul] at this
            omega
          rw [hy, List.getElem?_set]
          simp [hb, R.klen, hi]
        · rw [if_neg (by omega), hy, List.getElem?_set, if_neg hij]
          exact e1
      · rw [if_neg hq] at hz
        have e1 := R.flat_at full q j z hz hj
        have hne : ¬ k * R.k + i = q * R.k + j := by
          intro e
          rcases Nat.lt_or_gt_of_ne hq with h | h
          · have := Nat.mul_le_mul_right R.k (show k + 1 ≤ q by omega); rw [Nat.succ_mul] at this; omega
          · have := Nat.mul_le_mul_right R.k (show q + 1 ≤ k by omega); rw [Nat.succ_mul] at this; omega
        rw [if_neg hne]
        exact e1
    · rw [List.length_set, List.take_set, ht]
theorem names_two (t : List MemT) (a b : Int) : namesR t [a, b] = if thereT t a && thereT t b && checkT t then 0 else 2 := by
  unfold namesR
  simp only [List.any_cons, List.any_nil, Bool.or_false]
  cases thereT t a <;> cases thereT t b <;> cases checkT t <;> rfl
def enrolR (t : List MemT) (kind up : Int) : List MemT × Int × Int :=
  if !(thereT t up && checkT t) then ([], 0, 2) else if !(kind == 2 || kind == 3) then ([], 0, 2) else
  if (memT t up).1 == 3 then ([], 0, 15) else if (memT t up).2.2 then ([], 0, 14) else if t.length == 200 then ([], 0, 8) else (t ++ [(kind, up, false)], (t.length : Int) + 1, 0)
def killR (t : List MemT) (n : Int) : List MemT × Int :=
  if !(thereT t n && checkT t) then ([], 2) else if n == 1 then ([], 2) else if (memT t n).2.2 then ([], 14) else (t.set (n - 1).toNat ((memT t n).1, (memT t n).2.1, true), 0)
def moveR (t : List MemT) (n up : Int) : List MemT × Int :=
  if !(thereT t n && thereT t up && checkT t) then ([], 2) else if n == 1 then ([], 2) else if (memT t n).2.2 || (memT t up).2.2 then ([], 14) else
  if (memT t up).1 == 3 then ([], 15) else if (wayT t t.length up).contains n then ([], 13) else (t.set (n - 1).toNat ((memT t n).1, up, (memT t n).2.2), 0)
theorem check_len {t : List MemT} (h : checkT t = true) : t.length ≤ 200 := by
  unfold checkT at h
  simp only [Bool.and_eq_true, decide_eq_true_eq] at h
  exact h.1.1.2

end Go.Proofs.Ytleioiihoplmaaa
