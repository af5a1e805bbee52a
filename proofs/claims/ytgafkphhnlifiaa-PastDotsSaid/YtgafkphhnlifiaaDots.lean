/- Dots in slices: the kit's functions on them. -/
import Derived.Test.YtgafkphhnlifiaaRowK
import Derived.Test.YtgafkphhnlifiaaDless
import Derived.Deep.QuietTactic
import Derived.BigQuiet
import Derived.RegionTactic
namespace Go.Proofs.Ytgafkphhnlifiaa
open Go.RowKit
set_option linter.unusedSimpArgs false
set_option linter.unusedVariables false


def dotTy : RowTy (Int × Int) where
  enc := fun x => [.int .i64 x.1, .int .i64 x.2]
  k := 2
  T := 37
  TS := 23
  z := (0, 0)
  zv := .agg #[.int .i64 0, .int .i64 0]
  bytes := 16
  klen := fun _ => rfl
  one := by intro x v hv; simp at hv; rcases hv with rfl | rfl <;> rfl
  zc := rfl
  kpos := by decide
  bpos := by decide
  under := by kernel_rfl
  info := by kernel_rfl
theorem dotCells {w : World} {g o n j : Nat} {xs : List (Int × Int)} (h : RdK dotTy w (some ⟨g, o, none⟩) n xs) {x : Int × Int} (hx : xs[j]? = some x) : w.cell? ⟨g, o + j * 2, none⟩ = some (.int .i64 x.1) ∧ w.cell? ⟨g, o + j * 2 + 1, none⟩ = some (.int .i64 x.2) :=
  ⟨h.at_ j 0 x _ hx rfl, h.at_ j 1 x _ hx rfl⟩
set_option maxHeartbeats 1000000 in
theorem samedot_any (w : World) (A B : Option Addr) (n m c d : Nat) (xs ys : List (Int × Int)) (h : RdK dotTy w A n xs) (h' : RdK dotTy w B m ys) (hn : n ≤ 140737488351232) (hm : m ≤ 140737488351232) :
    Calls Try.prog 19 #[.slice A n c, .slice B m d] w fun e w' => e = .returned (.bool (xs == ys)) ∧ Chg [] w w' := by
  have hl := h.len
  have hl2 := h'.len
  subst hl hl2
  by_cases hne : xs.length = ys.length
  · have hb : ((xs.length : Int) == (ys.length : Int)) = true := by simp; omega
    have HN := Lib.hid hne
    have HA := Lib.hid h
    have HB := Lib.hid h'
    clear hne h h'
    go_enter Try.func19, Try.ntmps19
    go_wp2
    go_loopw [5] (fun i wr => ∃ k : Nat, k ≤ xs.length ∧ i = .int .i64 k ∧ Hid (xs.take k = ys.take k ∧ Chg [] w wr)) (fun i _ => xs.length - (RowKit.intOf i).toNat)
    case atStart => exact ⟨0, Nat.zero_le _, rfl, rfl, Chg.refl _ _⟩
    case round =>
      obtain ⟨k, hk, rfl, HI⟩ := hrel
      by_cases hlt : k < xs.length
      · have hlt2 : k < ys.length := by have := HN.out; omega
        obtain ⟨g, o, eA, _⟩ := HA.out.line (by omega)
        obtain ⟨g2, o2, eB, _⟩ := HB.out.line (by omega)
        subst eA eB
        have ex := List.getElem?_eq_getElem hlt
        have ey := List.getElem?_eq_getElem hlt2
        obtain ⟨p0, p1⟩ := dotCells (HA.out.chg HI.out.2 (by simp)) ex
        obtain ⟨q0, q1⟩ := dotCells (HB.out.chg HI.out.2 (by simp)) ey
        generalize hx : xs[k] = x at *
        generalize hy : ys[k] = y at *
        have i0 : (0 : Int) ≤ (k : Int) := by omega
        have i1 : (k : Int) < (xs.length : Int) := by omega
        have i2 : (k : Int) < (ys.length : Int) := by omega
        have HX := Lib.hid (And.intro ex ey)
        clear ex ey hx hy
        refine (Decidable.em (x = y)).elim (fun hxy => ?EQ) (fun hxy => ?NE)
        case EQ =>
          subst hxy
          go_wp2
          go_quiet (fail)
          go_wp2
          refine ⟨⟨k + 1, by omega, by simp, ?_, HI.out.2.drewN _⟩, by simp [RowKit.intOf]; omega⟩
          rw [List.take_add_one, List.take_add_one, HI.out.1, HX.out.1, HX.out.2]
        case NE =>
          have hf : (xs == ys) = false := by
            rw [beq_eq_false_iff_ne]
            intro e
            apply hxy
            have h1 := HX.out.1
            rw [e, HX.out.2] at h1
            exact (Option.some.inj h1).symm
          have HF := Lib.hid hf
          clear hf
          by_cases h0 : x.1 = y.1
          · skip
            have h1 : ¬ x.2 = y.2 := fun h => hxy (by exact Prod.ext h0 h)
            clear hxy
            go_wp2
            go_quiet (fail)
            go_wp2
            go_ret
            exact ⟨by rw [HF.out]; rfl, HI.out.2.drewN _⟩
          · clear hxy
            go_wp2
            go_quiet (fail)
            go_wp2
            go_ret
            exact ⟨by rw [HF.out]; rfl, HI.out.2.drewN _⟩
      · obtain rfl : k = xs.length := by omega
        have ht : (xs == ys) = true := by
          have := HI.out.1
          rw [List.take_of_length_le (Nat.le_refl _), List.take_of_length_le (by have := HN.out; omega)] at this
          simpa using this
        have HF := Lib.hid ht
        clear ht
        go_wp2
        go_ret
        exact ⟨by rw [HF.out]; rfl, HI.out.2⟩
  · have hb : ((xs.length : Int) == (ys.length : Int)) = false := by simp; omega
    have hf : (xs == ys) = false := by
      rw [beq_eq_false_iff_ne]
      intro e
      exact hne (by rw [e])
    rw [hf]
    clear hne h h' hf
    go_enter Try.func19, Try.ntmps19
    go_wp2
    go_ret
    exact ⟨rfl, Chg.refl _ _⟩
set_option maxRecDepth 100000 in
set_option maxHeartbeats 1000000 in
theorem copydot_any (w : World) (A : Option Addr) (n c : Nat) (xs : List (Int × Int)) (h : RdK dotTy w A n xs) (hn : n * 400 ≤ 140737488355327) :
    Calls Try.prog 10 #[.slice A n c] w fun e w' => ∃ A' c', e = .returned (.slice A' n c') ∧ OwnK dotTy w' A' c' xs ∧ (∀ a, A' = some a → w.heap.size ≤ a.block) ∧ Chg [] w w' := by
  obtain ⟨w1, hw1, c1, b1⟩ := news1 w (.cells #[] 37)
  have W1 := Lib.hid hw1
  have HA := Lib.hid (h.chg c1 (by simp))
  have HO : Hid (OwnK dotTy w1 (some ⟨w.heap.size, 0, none⟩) 0 []) := Lib.hid (.of (full := []) b1 (Nat.le_refl _) (Nat.zero_le _) rfl rfl)
  have C1 := Lib.hid c1

  have HN : Hid ((0 + n) * 400 ≤ 140737488355327) := Lib.hid (by rw [Nat.zero_add]; exact hn)
  clear hw1 c1 b1 h hn
  go_enter Try.func10, Try.ntmps10
  go_wp2_with (at_builtin; rw [← W1.out]; refine wpList_appK rfl _ _ rfl rfl HO.out rfl rfl HA.out HN.out ?_; intro A2 c2 w2 u2 d2 e2)
  go_ret
  rw [Nat.zero_add] at *
  have hA2 : ∀ a, A2 = some a → w.heap.size ≤ a.block := by
    rintro a rfl
    rcases e2 with h | h
    · cases h; exact Nat.le_refl _
    · cases h; exact C1.out.size
  exact ⟨A2, c2, by simp, by simpa using u2, hA2, C1.out.grown d2 (fun k hk => by simp at hk; subst hk; exact .inr (Nat.le_refl _))⟩
theorem dotSet (full : List (Int × Int)) (j : Nat) (x : Int × Int) (hj : j < full.length) : (((dotTy.flat full).toArray.setIfInBounds (j * 2) (.int .i64 x.1)).setIfInBounds (j * 2 + 1) (.int .i64 x.2)) = (dotTy.flat (full.set j x)).toArray := by
  apply Array.toList_inj.1
  refine (dotTy.flat_ext _ (full.set j x) ?_ ?_)
  · simp [RowTy.flat_len]
  · intro q i y hy hi
    have hk : dotTy.k = 2 := rfl
    rw [hk] at hi ⊢
    have hlen : (dotTy.flat full).length = full.length * 2 := dotTy.flat_len full
    simp only [Array.toList_setIfInBounds, List.getElem?_set, List.length_set]
    rw [List.getElem?_set] at hy
    by_cases hq : j = q
    · subst hq
      rw [if_pos rfl, if_pos hj] at hy
      cases hy
      rcases (show i = 0 ∨ i = 1 by omega) with rfl | rfl
      · rw [if_neg (by omega)]; rw [if_pos (by omega), if_pos (by simp [hlen]; omega)]; rfl
      · rw [if_pos (by omega), if_pos (by simp [hlen]; omega)]; rfl
    · rw [if_neg hq] at hy
      have hql := (List.getElem?_eq_some_iff.1 hy).1
      rw [if_neg (by omega), if_neg (by omega)]
      have e := dotTy.flat_at full q i y hy (by rw [hk]; exact hi)
      rw [hk] at e
      simpa using e
theorem dotPut (w : World) (g j : Nat) (full : List (Int × Int)) (x : Int × Int) (h : w.heap[g]? = some (.cells (dotTy.flat full).toArray 37 (0, 0))) (hj : j < full.length) : ((w.setCell ⟨g, j * 2, none⟩ (.int .i64 x.1)).setCell ⟨g, j * 2 + 1, none⟩ (.int .i64 x.2)).heap[g]? = some (.cells (dotTy.flat (full.set j x)).toArray 37 (0, 0)) := by
  have h0 := heap_setCell_same _ g (j * 2) _ _ (.int .i64 x.1) h
  have h1 := heap_setCell_same _ g (j * 2 + 1) _ _ (.int .i64 x.2) h0
  rw [dotSet full j x hj] at h1
  exact h1
end Go.Proofs.Ytgafkphhnlifiaa
