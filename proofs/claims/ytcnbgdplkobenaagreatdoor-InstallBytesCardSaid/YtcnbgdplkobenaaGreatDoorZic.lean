/- Spans in slices: the functions of the kit on them. past.stands, past.apart. past.Check. The document's Check of a past. Package past: Bytes; the document's. The document's Bytes of a past. The program's Bytes of a past. Paths, purely: the parts of a text, which parts may be, which texts are paths. No program is named here. Sets of dots as lists of spans: plain functions. No function of the program is named here. -/
import Derived.Test.YtcnbgdplkobenaaGreatDoorZib
import Derived.Deep.QuietTactic
import Derived.BigQuiet
import Derived.RegionTactic
import Derived.Deep.Cut
import Derived.Deep.RegionHeld3
import Derived.Test.YtcnbgdplkobenaaGreatDoorZia
import Derived.Laws.MakeOwn
import Derived.Lib.DecodeN
namespace Go.Proofs.YtcnbgdplkobenaaGreatDoor
section
open Go.RowKit
set_option linter.unusedSimpArgs false
set_option linter.unusedVariables false


def spanTy : RowTy (Int × Int × Int) where
  enc := fun x => [.int .i64 x.1, .int .i64 x.2.1, .int .i64 x.2.2]
  k := 3
  T := 88
  TS := 25
  z := (0, 0, 0)
  zv := .agg #[.int .i64 0, .int .i64 0, .int .i64 0]
  bytes := 24
  klen := fun _ => rfl
  one := by intro x v hv; simp at hv; rcases hv with rfl | rfl | rfl <;> rfl
  zc := rfl
  kpos := by decide
  bpos := by decide
  under := by kernel_rfl
  info := by kernel_rfl
theorem spanCells {w : World} {g o n j : Nat} {xs : List (Int × Int × Int)} (h : RdK spanTy w (some ⟨g, o, none⟩) n xs) {x : Int × Int × Int} (hx : xs[j]? = some x) : w.cell? ⟨g, o + j * 3, none⟩ = some (.int .i64 x.1) ∧ w.cell? ⟨g, o + j * 3 + 1, none⟩ = some (.int .i64 x.2.1) ∧ w.cell? ⟨g, o + j * 3 + 2, none⟩ = some (.int .i64 x.2.2) :=
  ⟨h.at_ j 0 x _ hx rfl, h.at_ j 1 x _ hx rfl, h.at_ j 2 x _ hx rfl⟩
set_option maxHeartbeats 1000000 in
theorem samespan_any (w : World) (A B : Option Addr) (n m c d : Nat) (xs ys : List (Int × Int × Int)) (h : RdK spanTy w A n xs) (h' : RdK spanTy w B m ys) (hn : n ≤ 140737488351232) (hm : m ≤ 140737488351232) :
    Calls Tryz.prog 57 #[.slice A n c, .slice B m d] w fun e w' => e = .returned (.bool (xs == ys)) ∧ Chg [] w w' := by
  have hl := h.len
  have hl2 := h'.len
  subst hl hl2
  by_cases hne : xs.length = ys.length
  · have hb : ((xs.length : Int) == (ys.length : Int)) = true := by simp; omega
    have HN := Lib.hid hne
    have HA := Lib.hid h
    have HB := Lib.hid h'
    clear hne h h'
    go_enter Tryz.func57, Tryz.ntmps57
    go_wp2
    go_loopw [5] (fun i wr => ∃ k : Nat, k ≤ xs.length ∧ i = .int .i64 k ∧ Hid (xs.take k = ys.take k ∧ Chg [] w wr)) (fun i _ => xs.length - (RowKit.intOf i).toNat)
    case atStart => exact ⟨0, Nat.zero_le _, rfl, rfl, Chg.refl _ _⟩
    case round =>
      obtain ⟨k, hk, rfl, HI⟩ := hrel
      by_cases hlt : k < xs.length
      · have hlt2 : k < ys.length := by have := HN.out; omega
        obtain ⟨g, o, eA, _⟩ := HA.out.line (by omega)
        obtain ⟨g2, o2, eB, _⟩ := HB.out.line (by omega)
        subst eA eB
        have ex := List.getElem?_eq_getElem hlt
        have ey := List.getElem?_eq_getElem hlt2
        obtain ⟨p0, p1, p2⟩ := spanCells (HA.out.chg HI.out.2 (by simp)) ex
        obtain ⟨q0, q1, q2⟩ := spanCells (HB.out.chg HI.out.2 (by simp)) ey
        generalize hx : xs[k] = x at *
        generalize hy : ys[k] = y at *
        have i0 : (0 : Int) ≤ (k : Int) := by omega
        have i1 : (k : Int) < (xs.length : Int) := by omega
        have i2 : (k : Int) < (ys.length : Int) := by omega
        have HX := Lib.hid (And.intro ex ey)
        clear ex ey hx hy
        refine (Decidable.em (x = y)).elim (fun hxy => ?EQ) (fun hxy => ?NE)
        case EQ =>
          subst hxy
          go_wp2
          go_quiet (fail)
          go_wp2
          refine ⟨⟨k + 1, by omega, by simp, ?_, HI.out.2.drewN _⟩, by simp [RowKit.intOf]; omega⟩
          rw [List.take_add_one, List.take_add_one, HI.out.1, HX.out.1, HX.out.2]
        case NE =>
          have hf : (xs == ys) = false := by
            rw [beq_eq_false_iff_ne]
            intro e
            apply hxy
            have h1 := HX.out.1
            rw [e, HX.out.2] at h1
            exact (Option.some.inj h1).symm
          have HF := Lib.hid hf
          clear hf
          by_cases h0 : x.1 = y.1
          · skip
            by_cases h1 : x.2.1 = y.2.1
            · skip
              have h2 : ¬ x.2.2 = y.2.2 := fun h => hxy (by exact Prod.ext h0 (Prod.ext h1 h))
              clear hxy
              go_wp2
              go_quiet (fail)
              go_wp2
              go_ret
              exact ⟨by rw [HF.out]; rfl, HI.out.2.drewN _⟩
            · clear hxy
              go_wp2
              go_quiet (fail)
              go_wp2
              go_ret
              exact ⟨by rw [HF.out]; rfl, HI.out.2.drewN _⟩
          · clear hxy
            go_wp2
            go_quiet (fail)
            go_wp2
            go_ret
            exact ⟨by rw [HF.out]; rfl, HI.out.2.drewN _⟩
      · obtain rfl : k = xs.length := by omega
        have ht : (xs == ys) = true := by
          have := HI.out.1
          rw [List.take_of_length_le (Nat.le_refl _), List.take_of_length_le (by have := HN.out; omega)] at this
          simpa using this
        have HF := Lib.hid ht
        clear ht
        go_wp2
        go_ret
        exact ⟨by rw [HF.out]; rfl, HI.out.2⟩
  · have hb : ((xs.length : Int) == (ys.length : Int)) = false := by simp; omega
    have hf : (xs == ys) = false := by
      rw [beq_eq_false_iff_ne]
      intro e
      exact hne (by rw [e])
    rw [hf]
    clear hne h h' hf
    go_enter Tryz.func57, Tryz.ntmps57
    go_wp2
    go_ret
    exact ⟨rfl, Chg.refl _ _⟩
set_option maxRecDepth 100000 in
set_option maxHeartbeats 1000000 in
theorem copyspan_any (w : World) (A : Option Addr) (n c : Nat) (xs : List (Int × Int × Int)) (h : RdK spanTy w A n xs) (hn : n * 400 ≤ 140737488355327) :
    Calls Tryz.prog 27 #[.slice A n c] w fun e w' => ∃ A' c', e = .returned (.slice A' n c') ∧ OwnK spanTy w' A' c' xs ∧ (∀ a, A' = some a → w.heap.size ≤ a.block) ∧ Chg [] w w' := by
  obtain ⟨w1, hw1, c1, b1⟩ := news1 w (.cells #[] 88)
  have W1 := Lib.hid hw1
  have HA := Lib.hid (h.chg c1 (by simp))
  have HO : Hid (OwnK spanTy w1 (some ⟨w.heap.size, 0, none⟩) 0 []) := Lib.hid (.of (full := []) b1 (Nat.le_refl _) (Nat.zero_le _) rfl rfl)
  have C1 := Lib.hid c1

  have HN : Hid ((0 + n) * 400 ≤ 140737488355327) := Lib.hid (by rw [Nat.zero_add]; exact hn)
  clear hw1 c1 b1 h hn
  go_enter Tryz.func27, Tryz.ntmps27
  go_wp2_with (at_builtin; rw [← W1.out]; refine wpList_appK rfl _ _ rfl rfl HO.out rfl rfl HA.out HN.out ?_; intro A2 c2 w2 u2 d2 e2)
  go_ret
  rw [Nat.zero_add] at *
  have hA2 : ∀ a, A2 = some a → w.heap.size ≤ a.block := by
    rintro a rfl
    rcases e2 with h | h
    · cases h; exact Nat.le_refl _
    · cases h; exact C1.out.size
  exact ⟨A2, c2, by simp, by simpa using u2, hA2, C1.out.grown d2 (fun k hk => by simp at hk; subst hk; exact .inr (Nat.le_refl _))⟩
theorem spanSet (full : List (Int × Int × Int)) (j : Nat) (x : Int × Int × Int) (hj : j < full.length) : ((((spanTy.flat full).toArray.setIfInBounds (j * 3) (.int .i64 x.1)).setIfInBounds (j * 3 + 1) (.int .i64 x.2.1)).setIfInBounds (j * 3 + 2) (.int .i64 x.2.2)) = (spanTy.flat (full.set j x)).toArray := by
  apply Array.toList_inj.1
  refine (spanTy.flat_ext _ (full.set j x) ?_ ?_)
  · simp [RowTy.flat_len]
  · intro q i y hy hi
    have hk : spanTy.k = 3 := rfl
    rw [hk] at hi ⊢
    have hlen : (spanTy.flat full).length = full.length * 3 := spanTy.flat_len full
    simp only [Array.toList_setIfInBounds, List.getElem?_set, List.length_set]
    rw [List.getElem?_set] at hy
    by_cases hq : j = q
    · subst hq
      rw [if_pos rfl, if_pos hj] at hy
      cases hy
      rcases (show i = 0 ∨ i = 1 ∨ i = 2 by omega) with rfl | rfl | rfl
      · rw [if_neg (by omega)]; rw [if_neg (by omega)]; rw [if_pos (by omega), if_pos (by simp [hlen]; omega)]; rfl
      · rw [if_neg (by omega)]; rw [if_pos (by omega), if_pos (by simp [hlen]; omega)]; rfl
      · rw [if_pos (by omega), if_pos (by simp [hlen]; omega)]; rfl
    · rw [if_neg hq] at hy
      have hql := (List.getElem?_eq_some_iff.1 hy).1
      rw [if_neg (by omega), if_neg (by omega), if_neg (by omega)]
      have e := spanTy.flat_at full q i y hy (by rw [hk]; exact hi)
      rw [hk] at e
      simpa using e
theorem spanPut (w : World) (g j : Nat) (full : List (Int × Int × Int)) (x : Int × Int × Int) (h : w.heap[g]? = some (.cells (spanTy.flat full).toArray 88 (0, 0))) (hj : j < full.length) : (((w.setCell ⟨g, j * 3, none⟩ (.int .i64 x.1)).setCell ⟨g, j * 3 + 1, none⟩ (.int .i64 x.2.1)).setCell ⟨g, j * 3 + 2, none⟩ (.int .i64 x.2.2)).heap[g]? = some (.cells (spanTy.flat (full.set j x)).toArray 88 (0, 0)) := by
  have h0 := heap_setCell_same _ g (j * 3) _ _ (.int .i64 x.1) h
  have h1 := heap_setCell_same _ g (j * 3 + 1) _ _ (.int .i64 x.2.1) h0
  have h2 := heap_setCell_same _ g (j * 3 + 2) _ _ (.int .i64 x.2.2) h1
  rw [spanSet full j x hj] at h2
  exact h2
set_option maxHeartbeats 1000000 in
theorem overspan_row (w : World) (g n c : Nat) (full : List (Int × Int × Int)) (hg : w.heap[g]? = some (.cells (spanTy.flat full).toArray 88 (0, 0))) (hl : full.length = c) (hn : n ≤ c) (hc : c ≤ 9223372036854775807) :
    Calls Tryz.prog 17 #[.slice (some ⟨g, 0, none⟩) n c] w fun e w' => e = .returned (.tuple #[]) ∧ Chg [g] w w' := by
  have HG := Lib.hid hg
  clear hg
  have i1 : (0 : Int) ≤ (c : Int) := by omega
  have hcc : (n : Int) ≤ (c : Int) := by omega
  go_enter Tryz.func17, Tryz.ntmps17
  go_wp2
  go_loopw [3] (fun i wr => ∃ (k : Nat) (cur : List (Int × Int × Int)), k ≤ c ∧ i = .int .i64 k ∧ Hid (cur.length = c ∧ wr.heap[g]? = some (.cells (spanTy.flat cur).toArray 88 (0, 0)) ∧ Chg [g] w wr)) (fun i _ => c - (RowKit.intOf i).toNat)
  case atStart => exact ⟨0, full, Nat.zero_le _, rfl, hl, HG.out, Chg.refl _ _⟩
  case round =>
    obtain ⟨k, cur, hk, rfl, HI⟩ := hrel
    by_cases hlt : k < c
    · have hcl : k < cur.length := by have := HI.out.1; omega
      have hrd : RdK spanTy wr (some ⟨g, 0, none⟩) cur.length cur := (OwnK.of (c := cur.length) (xs := cur) HI.out.2.1 (Nat.le_refl _) (by have := HI.out.1; unfold maxLen; omega) rfl (List.take_length)).reads
      have ex := List.getElem?_eq_getElem hcl
      obtain ⟨p0, p1, p2⟩ := spanCells hrd ex
      simp only [Nat.zero_add] at p0 p1 p2
      have f0 := free_of HI.out.2.1 (k * 3)
      have f1 := free_of HI.out.2.1 (k * 3 + 1)
      have f2 := free_of HI.out.2.1 (k * 3 + 2)
      have i2 : (0 : Int) ≤ (k : Int) := by omega
      have i3 : (k : Int) < (c : Int) := by omega
      have hput := spanPut wr g k cur (-7, 7, -7) HI.out.2.1 hcl
      have hch := HI.out.2.2.trans ((((Chg.refl [g] wr).setCell (p := ⟨g, k * 3, none⟩) (.inl (by simp)) (.int .i64 (-7))).setCell (p := ⟨g, k * 3 + 1, none⟩) (.inl (by simp)) (.int .i64 (7))).setCell (p := ⟨g, k * 3 + 2, none⟩) (.inl (by simp)) (.int .i64 (-7)))
      have HP := Lib.hid (And.intro hput hch)
      clear hput hch hrd ex
      go_wp2
      refine ⟨⟨k + 1, cur.set k (-7, 7, -7), by omega, by simp, by rw [List.length_set]; exact HI.out.1, HP.out.1, HP.out.2⟩, by simp [RowKit.intOf]; omega⟩
    · obtain rfl : k = c := by omega
      go_wp2
      go_end0
      exact ⟨rfl, HI.out.2.2⟩
set_option maxHeartbeats 1000000 in
theorem overspan_own (w : World) (A : Option Addr) (n c : Nat) (xs : List (Int × Int × Int)) (h : OwnK spanTy w A c xs) (hn : n = xs.length) :
    Calls Tryz.prog 17 #[.slice A n c] w fun e w' => e = .returned (.tuple #[]) ∧ ∀ S : List Nat, (∀ a, A = some a → a.block ∈ S) → Chg S w w' := by
  subst hn
  rcases h with ⟨rfl, rfl, rfl⟩ | ⟨g, full, rfl, hg, hl, hm, hn, _⟩
  · go_enter Tryz.func17, Tryz.ntmps17
    go_wp2
    refine wp_loop_rounds 1 ?_
    rw [rounds_succ]
    go_wp2
    go_end0
    exact ⟨rfl, fun S _ => Chg.refl _ _⟩
  · unfold maxLen at hm
    exact (overspan_row w g _ c full hg hl hn (by omega)).mono fun e w' ⟨h1, h2⟩ => ⟨h1, fun S hS => h2.mono (fun i hi => by simp at hi; subst hi; exact .inl (hS _ rfl))⟩
end
section
open Go.RowKit Go.Lib
set_option linter.unusedSimpArgs false
set_option linter.unusedVariables false


/-- Which spans may be, by themselves. -/
def FineS (n f t : Int) : Prop := 1 ≤ n ∧ n ≤ 200 ∧ 1 ≤ f ∧ f ≤ t ∧ t ≤ 2147483647
instance (n f t : Int) : Decidable (FineS n f t) := by unfold FineS; exact inferInstance
/-- The second is behind the first, and does not touch it. -/
def ApartS (n t m g : Int) : Prop := n < m ∨ n = m ∧ t + 1 < g
instance (n t m g : Int) : Decidable (ApartS n t m g) := by unfold ApartS; exact inferInstance
/-- May the rest be, behind that one? -/
def okFrom : Option (Int × Int × Int) → List (Int × Int × Int) → Bool
  | _, [] => true
  | none, x :: l => decide (FineS x.1 x.2.1 x.2.2) && okFrom (some x) l
  | some y, x :: l => decide (FineS x.1 x.2.1 x.2.2) && decide (ApartS y.1 y.2.2 x.1 x.2.1) && okFrom (some x) l
/-- Why a past may not be. -/
def chkS (xs : List (Int × Int × Int)) : Int := if xs.length ≤ 4000 ∧ okFrom none xs = true then 0 else 2
/-- The one ahead of place k. -/
def prevS (xs : List (Int × Int × Int)) (k : Nat) : Option (Int × Int × Int) := if k = 0 then none else xs[k - 1]?
theorem okFrom_next (xs : List (Int × Int × Int)) (k : Nat) (x : Int × Int × Int) (hx : xs[k]? = some x) :
    okFrom (prevS xs k) (xs.drop k) = (decide (FineS x.1 x.2.1 x.2.2) && (match prevS xs k with | none => true | some y => decide (ApartS y.1 y.2.2 x.1 x.2.1)) && okFrom (prevS xs (k + 1)) (xs.drop (k + 1))) := by
  obtain ⟨hk, rfl⟩ := List.getElem?_eq_some_iff.1 hx
  rw [List.drop_eq_getElem_cons hk]
  have e : prevS xs (k + 1) = some xs[k] := by unfold prevS; rw [if_neg (by omega)]; exact List.getElem?_eq_getElem hk
  rw [e]
  cases prevS xs k <;> simp [okFrom]

set_option maxHeartbeats 400000 in
theorem stands_any (w : World) (n f t : Int) : Calls Tryz.prog 90 #[.agg #[.int .i64 n, .int .i64 f, .int .i64 t]] w fun e w' => e = .returned (.bool (decide (FineS n f t))) ∧ Chg [] w w' := by
  have go : ∀ v, decide (FineS n f t) = v → Calls Tryz.prog 90 #[.agg #[.int .i64 n, .int .i64 f, .int .i64 t]] w (fun e w' => e = .returned (.bool v) ∧ Chg [] w w') → Calls Tryz.prog 90 #[.agg #[.int .i64 n, .int .i64 f, .int .i64 t]] w fun e w' => e = .returned (.bool (decide (FineS n f t))) ∧ Chg [] w w' := fun v hv h => hv ▸ h
  by_cases h : FineS n f t
  · refine go true (decide_eq_true h) ?_
    obtain ⟨h1, h2, h3, h4, h5⟩ := h
    clear go
    go_enter Tryz.func90, Tryz.ntmps90
    go_wp2
    go_ret
    exact ⟨rfl, (Chg.refl _ _).alloc _⟩
  · refine go false (decide_eq_false h) ?_
    unfold FineS at h
    by_cases h1 : 1 ≤ n
    rotate_left
    · clear h
      clear go
      go_enter Tryz.func90, Tryz.ntmps90
      go_wp2
      go_ret
      exact ⟨rfl, (Chg.refl _ _).alloc _⟩
    by_cases h2 : n ≤ 200
    rotate_left
    · clear h
      clear go
      go_enter Tryz.func90, Tryz.ntmps90
      go_wp2
      go_ret
      exact ⟨rfl, (Chg.refl _ _).alloc _⟩
    by_cases h3 : 1 ≤ f
    rotate_left
    · clear h
      clear go
      go_enter Tryz.func90, Tryz.ntmps90
      go_wp2
      go_ret
      exact ⟨rfl, (Chg.refl _ _).alloc _⟩
    by_cases h4 : f ≤ t
    rotate_left
    · clear h
      clear go
      go_enter Tryz.func90, Tryz.ntmps90
      go_wp2
      go_ret
      exact ⟨rfl, (Chg.refl _ _).alloc _⟩
    have h5 : ¬ t ≤ 2147483647 := by omega
    clear h
    clear go
    go_enter Tryz.func90, Tryz.ntmps90
    go_wp2
    go_ret
    exact ⟨rfl, (Chg.refl _ _).alloc _⟩
set_option maxHeartbeats 400000 in
theorem apart_any (w : World) (n f t m g u : Int) (ht : -2147483648 ≤ t) (ht2 : t ≤ 2147483647) : Calls Tryz.prog 91 #[.agg #[.int .i64 n, .int .i64 f, .int .i64 t], .agg #[.int .i64 m, .int .i64 g, .int .i64 u]] w fun e w' => e = .returned (.bool (decide (ApartS n t m g))) ∧ Chg [] w w' := by
  have go : ∀ v, decide (ApartS n t m g) = v → Calls Tryz.prog 91 #[.agg #[.int .i64 n, .int .i64 f, .int .i64 t], .agg #[.int .i64 m, .int .i64 g, .int .i64 u]] w (fun e w' => e = .returned (.bool v) ∧ Chg [] w w') → Calls Tryz.prog 91 #[.agg #[.int .i64 n, .int .i64 f, .int .i64 t], .agg #[.int .i64 m, .int .i64 g, .int .i64 u]] w fun e w' => e = .returned (.bool (decide (ApartS n t m g))) ∧ Chg [] w w' := fun v hv h => hv ▸ h
  have wr : IntKind.i64.wrap (t + 1) = t + 1 := IntWalk.i64_in _ (by omega)
  by_cases h1 : n < m
  · refine go true (decide_eq_true (.inl h1)) ?_
    clear go
    go_enter Tryz.func91, Tryz.ntmps91
    go_wp2
    go_ret
    exact ⟨rfl, ((Chg.refl _ _).alloc _).alloc _⟩
  by_cases h2 : n = m
  rotate_left
  · refine go false (decide_eq_false (by unfold ApartS; omega)) ?_
    clear go
    go_enter Tryz.func91, Tryz.ntmps91
    go_wp2
    go_ret
    exact ⟨rfl, ((Chg.refl _ _).alloc _).alloc _⟩
  by_cases h3 : t + 1 < g
  · refine go true (decide_eq_true (.inr ⟨h2, h3⟩)) ?_
    subst h2
    clear go
    go_enter Tryz.func91, Tryz.ntmps91
    go_wp2
    go_ret
    exact ⟨rfl, ((Chg.refl _ _).alloc _).alloc _⟩
  · refine go false (decide_eq_false (by unfold ApartS; omega)) ?_
    subst h2
    clear go
    go_enter Tryz.func91, Tryz.ntmps91
    go_wp2
    go_ret
    exact ⟨rfl, ((Chg.refl _ _).alloc _).alloc _⟩
end
section
open Go.RowKit Go.Lib
set_option linter.unusedSimpArgs false
set_option linter.unusedVariables false



set_option maxHeartbeats 4000000 in
set_option maxRecDepth 100000 in
theorem pacheck_any (w : World) (A : Option Addr) (n c : Nat) (xs : List (Int × Int × Int)) (h : RdK spanTy w A n xs) (hn : n ≤ 140737488351232) : Calls Tryz.prog 60 #[.slice A n c] w fun e w' => e = .returned (.int .i64 (chkS xs)) ∧ Chg [] w w' := by
  have go : ∀ v, chkS xs = v → Calls Tryz.prog 60 #[.slice A n c] w (fun e w' => e = .returned (.int .i64 v) ∧ Chg [] w w') → Calls Tryz.prog 60 #[.slice A n c] w fun e w' => e = .returned (.int .i64 (chkS xs)) ∧ Chg [] w w' := fun v hv h => hv ▸ h
  have hl := h.len
  subst hl
  by_cases hbig : 4000 < xs.length
  · refine go 2 (if_neg (by omega)) ?_
    clear go h
    go_enter Tryz.func60, Tryz.ntmps60
    go_wp2
    go_ret
    exact ⟨rfl, Chg.refl _ _⟩
  · skip
    have HX := Lib.hid h
    have hV : chkS xs = if okFrom none xs = true then 0 else 2 := by unfold chkS; by_cases ho : okFrom none xs = true <;> simp [ho] <;> omega
    have HV := Lib.hid hV
    clear h go
    generalize chkS xs = V at *
    clear hV
    go_enter Tryz.func60, Tryz.ntmps60
    go_wp2
    go_loopw [10] (fun i wr => ∃ (k : Nat), k ≤ xs.length ∧ i = .int .i64 k ∧ Hid (Chg [] w wr ∧ okFrom none xs = okFrom (prevS xs k) (xs.drop k) ∧ ∀ y, prevS xs k = some y → FineS y.1 y.2.1 y.2.2)) (fun i _ => xs.length - (RowKit.intOf i).toNat)
    case atStart => exact ⟨0, Nat.zero_le _, rfl, Chg.refl _ _, rfl, by unfold prevS; simp⟩
    case round =>
      obtain ⟨k, hk, rfl, HI⟩ := hrel
      generalize wr = w1 at *
      clear wr
      by_cases hlt : k < xs.length
      · skip
        obtain ⟨g, o, eA, _⟩ := HX.out.line (by omega)
        subst eA
        have ex := List.getElem?_eq_getElem hlt
        generalize xs[k] = x at *
        have EX := Lib.hid ex
        have hok := okFrom_next xs k x ex
        have HOK := Lib.hid (HI.out.2.1.trans hok)
        clear ex hok
        have i0 : (0 : Int) ≤ (k : Int) := by omega
        have i1 : (k : Int) < (xs.length : Int) := by omega
        have hcc := spanCells (HX.out.chg HI.out.1 (by simp)) EX.out
        obtain ⟨p0, p1, p2⟩ := hcc
        have CW := Lib.hid HI.out.1
        obtain ⟨w2, hw2, cw2, b_B0⟩ := news1 w1 (.cells #[.int .i64 x.1, .int .i64 x.2.1, .int .i64 x.2.2] 88)
        have Ww2 := Lib.hid hw2
        have l_B0 := lt_of_heap b_B0
        replace CW := Lib.hid (CW.out.trans cw2)
        have B0 := Lib.hid (b_B0)
        clear hw2 cw2 b_B0
        skip
        go_upto_region 6 with fail
        rw [← Ww2.out]
        generalize w1.heap.size = b at *
        clear Ww2
        have hc0 : ∀ w', Chg [] w2 w' → w'.cell? ⟨b, 0, none⟩ = some (.int .i64 x.1) ∧ w'.cell? ⟨b, 1, none⟩ = some (.int .i64 x.2.1) ∧ w'.cell? ⟨b, 2, none⟩ = some (.int .i64 x.2.2) := by
          intro w' hc
          have b1 := hc.at_ B0.out (by simp)
          exact ⟨cell_of b1 0, cell_of b1 1, cell_of b1 2⟩
        have HC0 := Lib.hid hc0
        clear hc0
        have LS := Lib.hid (fun w => stands_any w x.1 x.2.1 x.2.2)
        by_cases hf : FineS x.1 x.2.1 x.2.2
        · have hd : decide (FineS x.1 x.2.1 x.2.2) = true := decide_eq_true hf
          have HFN := Lib.hid hf
          rw [hd] at LS HOK
          clear hd hf
          by_cases h0 : k = 0
          · subst h0
            refine wp_region_held_drew (S := fun w' => Chg [] w2 w') (by kernel_rfl) (Chg.refl [] w2).drew (fun hHeld => ?_)
            refine step_yes 0 15 ?_ (by assumption) rfl rfl (by kernel_rfl) (by kernel_rfl) (by kernel_rfl) (fun _ _ _ h => h) (by rfl) ?_ ?_
            rotate_left
            · (intro w hSw; (try dsimp only at hSw); have hq := HC0.out _ hSw; obtain ⟨q0, q1, q2⟩ := hq; go_simp; try with_reducible rfl)
            try simp only [Act.put, List.setIfInBounds_toArray, List.set_cons_zero, List.set_cons_succ]
            refine wpAnyH_ready (rs := [1]) (by kernel_rfl) (by simp) ?_
            refine AllReadyH.cons rfl (fun K hK => ?_) AllReadyH.nil
            replace hK := Lib.hid hK
            go_simp
            refine (LS.out _).mono ?_
            rintro e w9 ⟨rfl, hc⟩
            have C9 := Lib.hid (hHeld.trans hc)
            clear hc hHeld
            refine hK.out _ _ C9.out (fun hHeld => ?_)
            clear hK K
            try simp only [Act.put, List.setIfInBounds_toArray, List.set_cons_zero, List.set_cons_succ]
            refine step_yes 2 17 ?_ (by assumption) rfl rfl (by kernel_rfl) (by kernel_rfl) (by kernel_rfl) (fun _ _ _ h => h) (by rfl) ?_ ?_
            rotate_left
            · (intro w hSw; (try dsimp only at hSw); go_simp; try with_reducible rfl)
            try simp only [Act.put, List.setIfInBounds_toArray, List.set_cons_zero, List.set_cons_succ]
            refine step_yes 3 18 ?_ (by assumption) rfl rfl (by kernel_rfl) (by kernel_rfl) (by kernel_rfl) (fun _ _ _ h => h) (by rfl) ?_ ?_
            rotate_left
            · (intro w hSw; (try dsimp only at hSw); go_simp; try with_reducible rfl)
            try simp only [Act.put, List.setIfInBounds_toArray, List.set_cons_zero, List.set_cons_succ]
            refine step_yes 4 19 ?_ (by assumption) rfl rfl (by kernel_rfl) (by kernel_rfl) (by kernel_rfl) (fun _ _ _ h => h) (by rfl) ?_ ?_
            rotate_left
            · (intro w hSw; (try dsimp only at hSw); go_simp; try with_reducible rfl)
            try simp only [Act.put, List.setIfInBounds_toArray, List.set_cons_zero, List.set_cons_succ]
            refine step_yes 5 20 ?_ (by assumption) rfl rfl (by kernel_rfl) (by kernel_rfl) (by kernel_rfl) (fun _ _ _ h => h) (by rfl) ?_ ?_
            rotate_left
            · (intro w hSw; (try dsimp only at hSw); go_simp; try with_reducible rfl)
            try simp only [Act.put, List.setIfInBounds_toArray, List.set_cons_zero, List.set_cons_succ]
            refine step_yes 6 21 ?_ (by assumption) rfl rfl (by kernel_rfl) (by kernel_rfl) (by kernel_rfl) (fun _ _ _ h => h) (by rfl) ?_ ?_
            rotate_left
            · (intro w hSw; (try dsimp only at hSw); go_simp; try with_reducible rfl)
            try simp only [Act.put, List.setIfInBounds_toArray, List.set_cons_zero, List.set_cons_succ]
            refine step_no 7 22 (by assumption) rfl rfl (by kernel_rfl) (by kernel_rfl) (by kernel_rfl) (fun _ _ _ h => h) (by rfl) ?_
            try simp only [Act.put, List.setIfInBounds_toArray, List.set_cons_zero, List.set_cons_succ]
            refine step_no 8 23 (by assumption) rfl rfl (by kernel_rfl) (by kernel_rfl) (by kernel_rfl) (fun _ _ _ h => h) (by rfl) ?_
            try simp only [Act.put, List.setIfInBounds_toArray, List.set_cons_zero, List.set_cons_succ]
            refine step_no 9 24 (by assumption) rfl rfl (by kernel_rfl) (by kernel_rfl) (by kernel_rfl) (fun _ _ _ h => h) (by rfl) ?_
            try simp only [Act.put, List.setIfInBounds_toArray, List.set_cons_zero, List.set_cons_succ]
            refine step_no 10 25 (by assumption) rfl rfl (by kernel_rfl) (by kernel_rfl) (by kernel_rfl) (fun _ _ _ h => h) (by rfl) ?_
            try simp only [Act.put, List.setIfInBounds_toArray, List.set_cons_zero, List.set_cons_succ]
            refine step_no 11 26 (by assumption) rfl rfl (by kernel_rfl) (by kernel_rfl) (by kernel_rfl) (fun _ _ _ h => h) (by rfl) ?_
            try simp only [Act.put, List.setIfInBounds_toArray, List.set_cons_zero, List.set_cons_succ]
            refine step_no 12 27 (by assumption) rfl rfl (by kernel_rfl) (by kernel_rfl) (by kernel_rfl) (fun _ _ _ h => h) (by rfl) ?_
            try simp only [Act.put, List.setIfInBounds_toArray, List.set_cons_zero, List.set_cons_succ]
            refine step_no 13 28 (by assumption) rfl rfl (by kernel_rfl) (by kernel_rfl) (by kernel_rfl) (fun _ _ _ h => h) (by rfl) ?_
            try simp only [Act.put, List.setIfInBounds_toArray, List.set_cons_zero, List.set_cons_succ]
            refine step_no 14 29 (by assumption) rfl rfl (by kernel_rfl) (by kernel_rfl) (by kernel_rfl) (fun _ _ _ h => h) (by rfl) ?_
            try simp only [Act.put, List.setIfInBounds_toArray, List.set_cons_zero, List.set_cons_succ]
            refine step_yes 15 30 ?_ (by assumption) rfl rfl (by kernel_rfl) (by kernel_rfl) (by kernel_rfl) (fun _ _ _ h => h) (by rfl) ?_ ?_
            rotate_left
            · (intro w hSw; (try dsimp only at hSw); go_simp; try with_reducible rfl)
            try simp only [Act.put, List.setIfInBounds_toArray, List.set_cons_zero, List.set_cons_succ]
            refine step_yes 16 31 ?_ (by assumption) rfl rfl (by kernel_rfl) (by kernel_rfl) (by kernel_rfl) (fun _ _ _ h => h) (by rfl) ?_ ?_
            rotate_left
            · (intro w hSw; (try dsimp only at hSw); go_simp; try with_reducible rfl)
            try simp only [Act.put, List.setIfInBounds_toArray, List.set_cons_zero, List.set_cons_succ]
            refine wpAnyH_done (by kernel_rfl) ?_ _
            go_wp2
            have e1 : prevS xs (0 + 1) = some x := by unfold prevS; rw [if_neg (by omega)]; exact EX.out
            have CE := Lib.hid (CW.out.trans C9.out)
            refine ⟨⟨0 + 1, by omega, by simp, CE.out, ?_, ?_⟩, by simp [RowKit.intOf]; omega⟩
            · rw [HOK.out]; simp [prevS]
            · rw [e1]; rintro y ⟨⟩; exact HFN.out
          · have hk1 : k - 1 < xs.length := by omega
            have ey := List.getElem?_eq_getElem hk1
            generalize xs[k - 1] = y at *
            have ep : prevS xs k = some y := by unfold prevS; rw [if_neg h0]; exact ey
            have EY := Lib.hid ey
            have HFY := Lib.hid (HI.out.2.2 y ep)
            rw [ep] at HOK
            dsimp only at HOK
            clear ey ep
            have hy0 : ∀ w', Chg [] w2 w' → w'.cell? ⟨g, o + (k - 1) * 3, none⟩ = some (.int .i64 y.1) ∧ w'.cell? ⟨g, o + (k - 1) * 3 + 1, none⟩ = some (.int .i64 y.2.1) ∧ w'.cell? ⟨g, o + (k - 1) * 3 + 2, none⟩ = some (.int .i64 y.2.2) := fun w' hc => spanCells (HX.out.chg (CW.out.trans hc) (by simp)) EY.out
            have HY0 := Lib.hid hy0
            clear hy0
            have LA := Lib.hid (fun w => apart_any w y.1 y.2.1 y.2.2 x.1 x.2.1 x.2.2 (by have := HFY.out; unfold FineS at this; omega) (by have := HFY.out; unfold FineS at this; omega))
            have hk2 : ((k : Int) - 1) = ((k - 1 : Nat) : Int) := by omega
            have hk3 : (0 : Int) < (k : Int) := by omega
            have hk4 : ((k - 1 : Nat) : Int) < (xs.length : Int) := by omega
            have hk5 : (0 : Int) ≤ ((k - 1 : Nat) : Int) := by omega
            have hk6 : IntKind.i64.wrap ((k - 1 : Nat) : Int) = ((k - 1 : Nat) : Int) := IntWalk.i64_in _ (by omega)
            have hk7 : decide (0 < k) = true := by simp; omega
            refine (Bool.eq_false_or_eq_true (decide (ApartS y.1 y.2.2 x.1 x.2.1))).elim (fun hA => ?AT) (fun hA => ?AF)
            case AT =>
              rw [hA] at LA HOK
              clear hA
              refine wp_region_held_drew (S := fun w' => Chg [] w2 w') (by kernel_rfl) (Chg.refl [] w2).drew (fun hHeld => ?_)
              refine step_yes 0 15 ?_ (by assumption) rfl rfl (by kernel_rfl) (by kernel_rfl) (by kernel_rfl) (fun _ _ _ h => h) (by rfl) ?_ ?_
              rotate_left
              · (intro w hSw; (try dsimp only at hSw); have hq := HC0.out _ hSw; obtain ⟨q0, q1, q2⟩ := hq; go_simp; try with_reducible rfl)
              try simp only [Act.put, List.setIfInBounds_toArray, List.set_cons_zero, List.set_cons_succ]
              refine wpAnyH_ready (rs := [1]) (by kernel_rfl) (by simp) ?_
              refine AllReadyH.cons rfl (fun K hK => ?_) AllReadyH.nil
              replace hK := Lib.hid hK
              go_simp
              refine (LS.out _).mono ?_
              rintro e w9 ⟨rfl, hc⟩
              have C9 := Lib.hid (hHeld.trans hc)
              clear hc hHeld
              refine hK.out _ _ C9.out (fun hHeld => ?_)
              clear hK K
              try simp only [Act.put, List.setIfInBounds_toArray, List.set_cons_zero, List.set_cons_succ]
              refine step_yes 2 17 ?_ (by assumption) rfl rfl (by kernel_rfl) (by kernel_rfl) (by kernel_rfl) (fun _ _ _ h => h) (by rfl) ?_ ?_
              rotate_left
              · (intro w hSw; (try dsimp only at hSw); go_simp; try with_reducible rfl)
              try simp only [Act.put, List.setIfInBounds_toArray, List.set_cons_zero, List.set_cons_succ]
              refine step_yes 3 18 ?_ (by assumption) rfl rfl (by kernel_rfl) (by kernel_rfl) (by kernel_rfl) (fun _ _ _ h => h) (by rfl) ?_ ?_
              rotate_left
              · (intro w hSw; (try dsimp only at hSw); go_simp; try with_reducible rfl)
              try simp only [Act.put, List.setIfInBounds_toArray, List.set_cons_zero, List.set_cons_succ]
              refine step_yes 4 19 ?_ (by assumption) rfl rfl (by kernel_rfl) (by kernel_rfl) (by kernel_rfl) (fun _ _ _ h => h) (by rfl) ?_ ?_
              rotate_left
              · (intro w hSw; (try dsimp only at hSw); go_simp; try with_reducible rfl)
              try simp only [Act.put, List.setIfInBounds_toArray, List.set_cons_zero, List.set_cons_succ]
              refine step_yes 5 20 ?_ (by assumption) rfl rfl (by kernel_rfl) (by kernel_rfl) (by kernel_rfl) (fun _ _ _ h => h) (by rfl) ?_ ?_
              rotate_left
              · (intro w hSw; (try dsimp only at hSw); go_simp; try with_reducible rfl)
              try simp only [Act.put, List.setIfInBounds_toArray, List.set_cons_zero, List.set_cons_succ]
              refine step_yes 6 21 ?_ (by assumption) rfl rfl (by kernel_rfl) (by kernel_rfl) (by kernel_rfl) (fun _ _ _ h => h) (by rfl) ?_ ?_
              rotate_left
              · (intro w hSw; (try dsimp only at hSw); go_simp; try with_reducible rfl)
              try simp only [Act.put, List.setIfInBounds_toArray, List.set_cons_zero, List.set_cons_succ]
              refine step_yes 7 22 ?_ (by assumption) rfl rfl (by kernel_rfl) (by kernel_rfl) (by kernel_rfl) (fun _ _ _ h => h) (by rfl) ?_ ?_
              rotate_left
              · (intro w hSw; (try dsimp only at hSw); go_simp; try with_reducible rfl)
              try simp only [Act.put, List.setIfInBounds_toArray, List.set_cons_zero, List.set_cons_succ]
              refine step_yes 8 23 ?_ (by assumption) rfl rfl (by kernel_rfl) (by kernel_rfl) (by kernel_rfl) (fun _ _ _ h => h) (by rfl) ?_ ?_
              rotate_left
              · (intro w hSw; (try dsimp only at hSw); go_simp; try with_reducible rfl)
              try simp only [Act.put, List.setIfInBounds_toArray, List.set_cons_zero, List.set_cons_succ]
              refine step_yes 9 24 ?_ (by assumption) rfl rfl (by kernel_rfl) (by kernel_rfl) (by kernel_rfl) (fun _ _ _ h => h) (by rfl) ?_ ?_
              rotate_left
              · (intro w hSw; (try dsimp only at hSw); go_simp; try with_reducible rfl)
              try simp only [Act.put, List.setIfInBounds_toArray, List.set_cons_zero, List.set_cons_succ]
              refine step_yes 10 25 ?_ (by assumption) rfl rfl (by kernel_rfl) (by kernel_rfl) (by kernel_rfl) (fun _ _ _ h => h) (by rfl) ?_ ?_
              rotate_left
              · (intro w hSw; (try dsimp only at hSw); go_simp; try with_reducible rfl)
              try simp only [Act.put, List.setIfInBounds_toArray, List.set_cons_zero, List.set_cons_succ]
              refine step_yes 11 26 ?_ (by assumption) rfl rfl (by kernel_rfl) (by kernel_rfl) (by kernel_rfl) (fun _ _ _ h => h) (by rfl) ?_ ?_
              rotate_left
              · (intro w hSw; (try dsimp only at hSw); have hq := HY0.out _ hSw; obtain ⟨q0, q1, q2⟩ := hq; go_simp; try with_reducible rfl)
              try simp only [Act.put, List.setIfInBounds_toArray, List.set_cons_zero, List.set_cons_succ]
              refine step_yes 12 27 ?_ (by assumption) rfl rfl (by kernel_rfl) (by kernel_rfl) (by kernel_rfl) (fun _ _ _ h => h) (by rfl) ?_ ?_
              rotate_left
              · (intro w hSw; (try dsimp only at hSw); have hq := HC0.out _ hSw; obtain ⟨q0, q1, q2⟩ := hq; go_simp; try with_reducible rfl)
              try simp only [Act.put, List.setIfInBounds_toArray, List.set_cons_zero, List.set_cons_succ]
              refine wpAnyH_ready (rs := [13]) (by kernel_rfl) (by simp) ?_
              refine AllReadyH.cons rfl (fun K hK => ?_) AllReadyH.nil
              replace hK := Lib.hid hK
              go_simp
              refine (LA.out _).mono ?_
              rintro e v9 ⟨rfl, hc⟩
              have D9 := Lib.hid (C9.out.trans hc)
              clear hc C9
              have C9 := D9
              clear D9
              refine hK.out _ _ C9.out (fun hHeld => ?_)
              clear hK K
              try simp only [Act.put, List.setIfInBounds_toArray, List.set_cons_zero, List.set_cons_succ]
              refine step_yes 14 29 ?_ (by assumption) rfl rfl (by kernel_rfl) (by kernel_rfl) (by kernel_rfl) (fun _ _ _ h => h) (by rfl) ?_ ?_
              rotate_left
              · (intro w hSw; (try dsimp only at hSw); go_simp; try with_reducible rfl)
              try simp only [Act.put, List.setIfInBounds_toArray, List.set_cons_zero, List.set_cons_succ]
              refine step_yes 15 30 ?_ (by assumption) rfl rfl (by kernel_rfl) (by kernel_rfl) (by kernel_rfl) (fun _ _ _ h => h) (by rfl) ?_ ?_
              rotate_left
              · (intro w hSw; (try dsimp only at hSw); go_simp; try with_reducible rfl)
              try simp only [Act.put, List.setIfInBounds_toArray, List.set_cons_zero, List.set_cons_succ]
              refine step_yes 16 31 ?_ (by assumption) rfl rfl (by kernel_rfl) (by kernel_rfl) (by kernel_rfl) (fun _ _ _ h => h) (by rfl) ?_ ?_
              rotate_left
              · (intro w hSw; (try dsimp only at hSw); go_simp; try with_reducible rfl)
              try simp only [Act.put, List.setIfInBounds_toArray, List.set_cons_zero, List.set_cons_succ]
              refine wpAnyH_done (by kernel_rfl) ?_ _
              go_wp2
              have e1 : prevS xs (k + 1) = some x := by unfold prevS; rw [if_neg (by omega)]; exact EX.out
              have CE := Lib.hid (CW.out.trans C9.out)
              refine ⟨⟨k + 1, by omega, by simp, CE.out, ?_, ?_⟩, by simp [RowKit.intOf]; omega⟩
              · rw [HOK.out]; simp [e1]
              · rw [e1]; rintro y ⟨⟩; exact HFN.out
            case AF =>
              rw [hA] at LA HOK
              clear hA
              refine wp_region_held_drew (S := fun w' => Chg [] w2 w') (by kernel_rfl) (Chg.refl [] w2).drew (fun hHeld => ?_)
              refine step_yes 0 15 ?_ (by assumption) rfl rfl (by kernel_rfl) (by kernel_rfl) (by kernel_rfl) (fun _ _ _ h => h) (by rfl) ?_ ?_
              rotate_left
              · (intro w hSw; (try dsimp only at hSw); have hq := HC0.out _ hSw; obtain ⟨q0, q1, q2⟩ := hq; go_simp; try with_reducible rfl)
              try simp only [Act.put, List.setIfInBounds_toArray, List.set_cons_zero, List.set_cons_succ]
              refine wpAnyH_ready (rs := [1]) (by kernel_rfl) (by simp) ?_
              refine AllReadyH.cons rfl (fun K hK => ?_) AllReadyH.nil
              replace hK := Lib.hid hK
              go_simp
              refine (LS.out _).mono ?_
              rintro e w9 ⟨rfl, hc⟩
              have C9 := Lib.hid (hHeld.trans hc)
              clear hc hHeld
              refine hK.out _ _ C9.out (fun hHeld => ?_)
              clear hK K
              try simp only [Act.put, List.setIfInBounds_toArray, List.set_cons_zero, List.set_cons_succ]
              refine step_yes 2 17 ?_ (by assumption) rfl rfl (by kernel_rfl) (by kernel_rfl) (by kernel_rfl) (fun _ _ _ h => h) (by rfl) ?_ ?_
              rotate_left
              · (intro w hSw; (try dsimp only at hSw); go_simp; try with_reducible rfl)
              try simp only [Act.put, List.setIfInBounds_toArray, List.set_cons_zero, List.set_cons_succ]
              refine step_yes 3 18 ?_ (by assumption) rfl rfl (by kernel_rfl) (by kernel_rfl) (by kernel_rfl) (fun _ _ _ h => h) (by rfl) ?_ ?_
              rotate_left
              · (intro w hSw; (try dsimp only at hSw); go_simp; try with_reducible rfl)
              try simp only [Act.put, List.setIfInBounds_toArray, List.set_cons_zero, List.set_cons_succ]
              refine step_yes 4 19 ?_ (by assumption) rfl rfl (by kernel_rfl) (by kernel_rfl) (by kernel_rfl) (fun _ _ _ h => h) (by rfl) ?_ ?_
              rotate_left
              · (intro w hSw; (try dsimp only at hSw); go_simp; try with_reducible rfl)
              try simp only [Act.put, List.setIfInBounds_toArray, List.set_cons_zero, List.set_cons_succ]
              refine step_yes 5 20 ?_ (by assumption) rfl rfl (by kernel_rfl) (by kernel_rfl) (by kernel_rfl) (fun _ _ _ h => h) (by rfl) ?_ ?_
              rotate_left
              · (intro w hSw; (try dsimp only at hSw); go_simp; try with_reducible rfl)
              try simp only [Act.put, List.setIfInBounds_toArray, List.set_cons_zero, List.set_cons_succ]
              refine step_yes 6 21 ?_ (by assumption) rfl rfl (by kernel_rfl) (by kernel_rfl) (by kernel_rfl) (fun _ _ _ h => h) (by rfl) ?_ ?_
              rotate_left
              · (intro w hSw; (try dsimp only at hSw); go_simp; try with_reducible rfl)
              try simp only [Act.put, List.setIfInBounds_toArray, List.set_cons_zero, List.set_cons_succ]
              refine step_yes 7 22 ?_ (by assumption) rfl rfl (by kernel_rfl) (by kernel_rfl) (by kernel_rfl) (fun _ _ _ h => h) (by rfl) ?_ ?_
              rotate_left
              · (intro w hSw; (try dsimp only at hSw); go_simp; try with_reducible rfl)
              try simp only [Act.put, List.setIfInBounds_toArray, List.set_cons_zero, List.set_cons_succ]
              refine step_yes 8 23 ?_ (by assumption) rfl rfl (by kernel_rfl) (by kernel_rfl) (by kernel_rfl) (fun _ _ _ h => h) (by rfl) ?_ ?_
              rotate_left
              · (intro w hSw; (try dsimp only at hSw); go_simp; try with_reducible rfl)
              try simp only [Act.put, List.setIfInBounds_toArray, List.set_cons_zero, List.set_cons_succ]
              refine step_yes 9 24 ?_ (by assumption) rfl rfl (by kernel_rfl) (by kernel_rfl) (by kernel_rfl) (fun _ _ _ h => h) (by rfl) ?_ ?_
              rotate_left
              · (intro w hSw; (try dsimp only at hSw); go_simp; try with_reducible rfl)
              try simp only [Act.put, List.setIfInBounds_toArray, List.set_cons_zero, List.set_cons_succ]
              refine step_yes 10 25 ?_ (by assumption) rfl rfl (by kernel_rfl) (by kernel_rfl) (by kernel_rfl) (fun _ _ _ h => h) (by rfl) ?_ ?_
              rotate_left
              · (intro w hSw; (try dsimp only at hSw); go_simp; try with_reducible rfl)
              try simp only [Act.put, List.setIfInBounds_toArray, List.set_cons_zero, List.set_cons_succ]
              refine step_yes 11 26 ?_ (by assumption) rfl rfl (by kernel_rfl) (by kernel_rfl) (by kernel_rfl) (fun _ _ _ h => h) (by rfl) ?_ ?_
              rotate_left
              · (intro w hSw; (try dsimp only at hSw); have hq := HY0.out _ hSw; obtain ⟨q0, q1, q2⟩ := hq; go_simp; try with_reducible rfl)
              try simp only [Act.put, List.setIfInBounds_toArray, List.set_cons_zero, List.set_cons_succ]
              refine step_yes 12 27 ?_ (by assumption) rfl rfl (by kernel_rfl) (by kernel_rfl) (by kernel_rfl) (fun _ _ _ h => h) (by rfl) ?_ ?_
              rotate_left
              · (intro w hSw; (try dsimp only at hSw); have hq := HC0.out _ hSw; obtain ⟨q0, q1, q2⟩ := hq; go_simp; try with_reducible rfl)
              try simp only [Act.put, List.setIfInBounds_toArray, List.set_cons_zero, List.set_cons_succ]
              refine wpAnyH_ready (rs := [13]) (by kernel_rfl) (by simp) ?_
              refine AllReadyH.cons rfl (fun K hK => ?_) AllReadyH.nil
              replace hK := Lib.hid hK
              go_simp
              refine (LA.out _).mono ?_
              rintro e v9 ⟨rfl, hc⟩
              have D9 := Lib.hid (C9.out.trans hc)
              clear hc C9
              have C9 := D9
              clear D9
              refine hK.out _ _ C9.out (fun hHeld => ?_)
              clear hK K
              try simp only [Act.put, List.setIfInBounds_toArray, List.set_cons_zero, List.set_cons_succ]
              refine step_yes 14 29 ?_ (by assumption) rfl rfl (by kernel_rfl) (by kernel_rfl) (by kernel_rfl) (fun _ _ _ h => h) (by rfl) ?_ ?_
              rotate_left
              · (intro w hSw; (try dsimp only at hSw); go_simp; try with_reducible rfl)
              try simp only [Act.put, List.setIfInBounds_toArray, List.set_cons_zero, List.set_cons_succ]
              refine step_yes 15 30 ?_ (by assumption) rfl rfl (by kernel_rfl) (by kernel_rfl) (by kernel_rfl) (fun _ _ _ h => h) (by rfl) ?_ ?_
              rotate_left
              · (intro w hSw; (try dsimp only at hSw); go_simp; try with_reducible rfl)
              try simp only [Act.put, List.setIfInBounds_toArray, List.set_cons_zero, List.set_cons_succ]
              refine step_yes 16 31 ?_ (by assumption) rfl rfl (by kernel_rfl) (by kernel_rfl) (by kernel_rfl) (fun _ _ _ h => h) (by rfl) ?_ ?_
              rotate_left
              · (intro w hSw; (try dsimp only at hSw); go_simp; try with_reducible rfl)
              try simp only [Act.put, List.setIfInBounds_toArray, List.set_cons_zero, List.set_cons_succ]
              have hv2 : ¬ okFrom none xs = true := by rw [HOK.out]; simp
              have HV2 : V = 2 := HV.out.trans (if_neg hv2)
              subst HV2
              clear hv2
              refine wpAnyH_done (by kernel_rfl) ?_ _
              have CE := Lib.hid (CW.out.trans C9.out)
              go_wp2
              go_ret
              exact ⟨rfl, CE.out⟩
        · have hd : decide (FineS x.1 x.2.1 x.2.2) = false := decide_eq_false hf
          rw [hd] at LS HOK
          clear hd hf
          refine wp_region_held_drew (S := fun w' => Chg [] w2 w') (by kernel_rfl) (Chg.refl [] w2).drew (fun hHeld => ?_)
          refine step_yes 0 15 ?_ (by assumption) rfl rfl (by kernel_rfl) (by kernel_rfl) (by kernel_rfl) (fun _ _ _ h => h) (by rfl) ?_ ?_
          rotate_left
          · (intro w hSw; (try dsimp only at hSw); have hq := HC0.out _ hSw; obtain ⟨q0, q1, q2⟩ := hq; go_simp; try with_reducible rfl)
          try simp only [Act.put, List.setIfInBounds_toArray, List.set_cons_zero, List.set_cons_succ]
          refine wpAnyH_ready (rs := [1]) (by kernel_rfl) (by simp) ?_
          refine AllReadyH.cons rfl (fun K hK => ?_) AllReadyH.nil
          replace hK := Lib.hid hK
          go_simp
          refine (LS.out _).mono ?_
          rintro e w9 ⟨rfl, hc⟩
          have C9 := Lib.hid (hHeld.trans hc)
          clear hc hHeld
          refine hK.out _ _ C9.out (fun hHeld => ?_)
          clear hK K
          try simp only [Act.put, List.setIfInBounds_toArray, List.set_cons_zero, List.set_cons_succ]
          refine step_yes 2 17 ?_ (by assumption) rfl rfl (by kernel_rfl) (by kernel_rfl) (by kernel_rfl) (fun _ _ _ h => h) (by rfl) ?_ ?_
          rotate_left
          · (intro w hSw; (try dsimp only at hSw); go_simp; try with_reducible rfl)
          try simp only [Act.put, List.setIfInBounds_toArray, List.set_cons_zero, List.set_cons_succ]
          refine step_yes 3 18 ?_ (by assumption) rfl rfl (by kernel_rfl) (by kernel_rfl) (by kernel_rfl) (fun _ _ _ h => h) (by rfl) ?_ ?_
          rotate_left
          · (intro w hSw; (try dsimp only at hSw); go_simp; try with_reducible rfl)
          try simp only [Act.put, List.setIfInBounds_toArray, List.set_cons_zero, List.set_cons_succ]
          refine step_no 4 19 (by assumption) rfl rfl (by kernel_rfl) (by kernel_rfl) (by kernel_rfl) (fun _ _ _ h => h) (by rfl) ?_
          try simp only [Act.put, List.setIfInBounds_toArray, List.set_cons_zero, List.set_cons_succ]
          refine step_no 5 20 (by assumption) rfl rfl (by kernel_rfl) (by kernel_rfl) (by kernel_rfl) (fun _ _ _ h => h) (by rfl) ?_
          try simp only [Act.put, List.setIfInBounds_toArray, List.set_cons_zero, List.set_cons_succ]
          refine step_no 6 21 (by assumption) rfl rfl (by kernel_rfl) (by kernel_rfl) (by kernel_rfl) (fun _ _ _ h => h) (by rfl) ?_
          try simp only [Act.put, List.setIfInBounds_toArray, List.set_cons_zero, List.set_cons_succ]
          refine step_no 7 22 (by assumption) rfl rfl (by kernel_rfl) (by kernel_rfl) (by kernel_rfl) (fun _ _ _ h => h) (by rfl) ?_
          try simp only [Act.put, List.setIfInBounds_toArray, List.set_cons_zero, List.set_cons_succ]
          refine step_no 8 23 (by assumption) rfl rfl (by kernel_rfl) (by kernel_rfl) (by kernel_rfl) (fun _ _ _ h => h) (by rfl) ?_
          try simp only [Act.put, List.setIfInBounds_toArray, List.set_cons_zero, List.set_cons_succ]
          refine step_no 9 24 (by assumption) rfl rfl (by kernel_rfl) (by kernel_rfl) (by kernel_rfl) (fun _ _ _ h => h) (by rfl) ?_
          try simp only [Act.put, List.setIfInBounds_toArray, List.set_cons_zero, List.set_cons_succ]
          refine step_no 10 25 (by assumption) rfl rfl (by kernel_rfl) (by kernel_rfl) (by kernel_rfl) (fun _ _ _ h => h) (by rfl) ?_
          try simp only [Act.put, List.setIfInBounds_toArray, List.set_cons_zero, List.set_cons_succ]
          refine step_no 11 26 (by assumption) rfl rfl (by kernel_rfl) (by kernel_rfl) (by kernel_rfl) (fun _ _ _ h => h) (by rfl) ?_
          try simp only [Act.put, List.setIfInBounds_toArray, List.set_cons_zero, List.set_cons_succ]
          refine step_no 12 27 (by assumption) rfl rfl (by kernel_rfl) (by kernel_rfl) (by kernel_rfl) (fun _ _ _ h => h) (by rfl) ?_
          try simp only [Act.put, List.setIfInBounds_toArray, List.set_cons_zero, List.set_cons_succ]
          refine step_no 13 28 (by assumption) rfl rfl (by kernel_rfl) (by kernel_rfl) (by kernel_rfl) (fun _ _ _ h => h) (by rfl) ?_
          try simp only [Act.put, List.setIfInBounds_toArray, List.set_cons_zero, List.set_cons_succ]
          refine step_no 14 29 (by assumption) rfl rfl (by kernel_rfl) (by kernel_rfl) (by kernel_rfl) (fun _ _ _ h => h) (by rfl) ?_
          try simp only [Act.put, List.setIfInBounds_toArray, List.set_cons_zero, List.set_cons_succ]
          refine step_no 15 30 (by assumption) rfl rfl (by kernel_rfl) (by kernel_rfl) (by kernel_rfl) (fun _ _ _ h => h) (by rfl) ?_
          try simp only [Act.put, List.setIfInBounds_toArray, List.set_cons_zero, List.set_cons_succ]
          refine step_yes 16 31 ?_ (by assumption) rfl rfl (by kernel_rfl) (by kernel_rfl) (by kernel_rfl) (fun _ _ _ h => h) (by rfl) ?_ ?_
          rotate_left
          · (intro w hSw; (try dsimp only at hSw); go_simp; try with_reducible rfl)
          try simp only [Act.put, List.setIfInBounds_toArray, List.set_cons_zero, List.set_cons_succ]
          have hv2 : ¬ okFrom none xs = true := by rw [HOK.out]; simp
          have HV2 : V = 2 := HV.out.trans (if_neg hv2)
          subst HV2
          clear hv2
          refine wpAnyH_done (by kernel_rfl) ?_ _
          have CE := Lib.hid (CW.out.trans C9.out)
          go_wp2
          go_ret
          exact ⟨rfl, CE.out⟩
      · obtain rfl : k = xs.length := by omega
        have hv := HI.out.2.1
        rw [List.drop_length] at hv
        have hv2 : okFrom none xs = true := by rw [hv]; cases prevS xs xs.length <;> rfl
        have HV2 : V = 0 := HV.out.trans (if_pos hv2)
        subst HV2
        clear hv hv2
        go_wp2
        go_ret
        exact ⟨rfl, HI.out.1⟩
end
section
open Go.RowKit Go.Lib
set_option linter.unusedSimpArgs false
set_option linter.unusedVariables false



set_option maxHeartbeats 8000000 in
set_option maxRecDepth 100000 in
theorem qacheck_any (w : World) (A : Option Addr) (n c : Nat) (xs : List (Int × Int × Int)) (h : RdK spanTy w A n xs) (hn : n ≤ 140737488351232) : Calls Tryz.prog 63 #[.slice A n c] w fun e w' => e = .returned (.int .i64 (chkS xs)) ∧ Chg [] w w' := by
  have go : ∀ v, chkS xs = v → Calls Tryz.prog 63 #[.slice A n c] w (fun e w' => e = .returned (.int .i64 v) ∧ Chg [] w w') → Calls Tryz.prog 63 #[.slice A n c] w fun e w' => e = .returned (.int .i64 (chkS xs)) ∧ Chg [] w w' := fun v hv h => hv ▸ h
  have hl := h.len
  subst hl
  by_cases hbig : 4000 < xs.length
  · refine go 2 (if_neg (by omega)) ?_
    clear go h
    go_enter Tryz.func63, Tryz.ntmps63
    go_wp2
    go_ret
    exact ⟨rfl, Chg.refl _ _⟩
  · skip
    have HX := Lib.hid h
    have hV : chkS xs = if okFrom none xs = true then 0 else 2 := by unfold chkS; by_cases ho : okFrom none xs = true <;> simp [ho] <;> omega
    have HV := Lib.hid hV
    clear h go
    generalize chkS xs = V at *
    clear hV
    go_enter Tryz.func63, Tryz.ntmps63
    go_wp2
    go_loopw [3] (fun i wr => ∃ (k : Nat), k ≤ xs.length ∧ i = .int .i64 k ∧ Hid (Chg [] w wr ∧ okFrom none xs = okFrom (prevS xs k) (xs.drop k) ∧ ∀ y, prevS xs k = some y → FineS y.1 y.2.1 y.2.2)) (fun i _ => xs.length - (RowKit.intOf i).toNat)
    case atStart => exact ⟨0, Nat.zero_le _, rfl, Chg.refl _ _, rfl, by unfold prevS; simp⟩
    case round =>
      obtain ⟨k, hk, rfl, HI⟩ := hrel
      generalize wr = w1 at *
      clear wr
      by_cases hlt : k < xs.length
      · skip
        obtain ⟨g, o, eA, _⟩ := HX.out.line (by omega)
        subst eA
        have ex := List.getElem?_eq_getElem hlt
        generalize xs[k] = x at *
        have EX := Lib.hid ex
        have hok := okFrom_next xs k x ex
        have HOK := Lib.hid (HI.out.2.1.trans hok)
        clear ex hok
        have i0 : (0 : Int) ≤ (k : Int) := by omega
        have i1 : (k : Int) < (xs.length : Int) := by omega
        have hcc := spanCells (HX.out.chg HI.out.1 (by simp)) EX.out
        obtain ⟨p0, p1, p2⟩ := hcc
        have CW := Lib.hid HI.out.1
        obtain ⟨w2, hw2, cw2, b_B0⟩ := news1 w1 (.cells #[.int .i64 x.1, .int .i64 x.2.1, .int .i64 x.2.2] 88)
        have Ww2 := Lib.hid hw2
        have l_B0 := lt_of_heap b_B0
        replace CW := Lib.hid (CW.out.trans cw2)
        have B0 := Lib.hid (b_B0)
        clear hw2 cw2 b_B0
        go_upto_region 7 with fail
        rw [← Ww2.out]
        generalize w1.heap.size = b at *
        clear Ww2
        clear p0 p1 p2
        have z_B0_0 := cell_of B0.out 0
        have z_B0_1 := cell_of B0.out 1
        have z_B0_2 := cell_of B0.out 2
        simp only [List.getElem?_toArray, List.getElem?_cons_succ, List.getElem?_cons_zero] at z_B0_0 z_B0_1 z_B0_2
        by_cases f1 : x.1 < 1
        · have hd : decide (FineS x.1 x.2.1 x.2.2) = false := decide_eq_false (by unfold FineS; omega)
          have hv2 : ¬ okFrom none xs = true := by rw [HOK.out, hd]; simp
          have HV2 : V = 2 := HV.out.trans (if_neg hv2)
          subst HV2
          clear hv2 hd
          go_wp2
          go_ret
          exact ⟨rfl, CW.out⟩
        by_cases f2 : 200 < x.1
        · have hd : decide (FineS x.1 x.2.1 x.2.2) = false := decide_eq_false (by unfold FineS; omega)
          have hv2 : ¬ okFrom none xs = true := by rw [HOK.out, hd]; simp
          have HV2 : V = 2 := HV.out.trans (if_neg hv2)
          subst HV2
          clear hv2 hd
          go_wp2
          go_ret
          exact ⟨rfl, CW.out⟩
        by_cases f3 : x.2.1 < 1
        · have hd : decide (FineS x.1 x.2.1 x.2.2) = false := decide_eq_false (by unfold FineS; omega)
          have hv2 : ¬ okFrom none xs = true := by rw [HOK.out, hd]; simp
          have HV2 : V = 2 := HV.out.trans (if_neg hv2)
          subst HV2
          clear hv2 hd
          go_wp2
          go_ret
          exact ⟨rfl, CW.out⟩
        by_cases f4 : x.2.2 < x.2.1
        · have hd : decide (FineS x.1 x.2.1 x.2.2) = false := decide_eq_false (by unfold FineS; omega)
          have hv2 : ¬ okFrom none xs = true := by rw [HOK.out, hd]; simp
          have HV2 : V = 2 := HV.out.trans (if_neg hv2)
          subst HV2
          clear hv2 hd
          go_wp2
          go_ret
          exact ⟨rfl, CW.out⟩
        by_cases f5 : 2147483647 < x.2.2
        · have hd : decide (FineS x.1 x.2.1 x.2.2) = false := decide_eq_false (by unfold FineS; omega)
          have hv2 : ¬ okFrom none xs = true := by rw [HOK.out, hd]; simp
          have HV2 : V = 2 := HV.out.trans (if_neg hv2)
          subst HV2
          clear hv2 hd
          go_wp2
          go_ret
          exact ⟨rfl, CW.out⟩
        have hf : FineS x.1 x.2.1 x.2.2 := by unfold FineS; omega
        have HFN := Lib.hid hf
        have hd := decide_eq_true hf
        rw [hd] at HOK
        clear hd hf
        go_upto_region 9 with fail
        by_cases h0 : k = 0
        · subst h0
          go_quiet (fail)
          have e1 : prevS xs (0 + 1) = some x := by unfold prevS; rw [if_neg (by omega)]; exact EX.out
          have CE := Lib.hid (CW.out.drewN nq)
          go_wp2
          go_round
          case rel =>
            refine ⟨0 + 1, by omega, by go_num, CE.out, ?_, ?_⟩
            · rw [HOK.out]; simp [prevS]
            · rw [e1]; rintro y ⟨⟩; exact HFN.out
          case measure => simp [RowKit.intOf]; omega
        · have hk1 : k - 1 < xs.length := by omega
          have ey := List.getElem?_eq_getElem hk1
          generalize xs[k - 1] = y at *
          have ep : prevS xs k = some y := by unfold prevS; rw [if_neg h0]; exact ey
          have EY := Lib.hid ey
          have hfy := HI.out.2.2 y ep
          unfold FineS at hfy
          rw [ep] at HOK
          dsimp only at HOK
          clear ey ep
          have hcc := spanCells (HX.out.chg CW.out (by simp)) EY.out
          obtain ⟨p0, p1, p2⟩ := hcc
          have hk2 : ((k : Int) - 1) = ((k - 1 : Nat) : Int) := by omega
          have hk4 : ((k - 1 : Nat) : Int) < (xs.length : Int) := by omega
          have hk5 : (0 : Int) ≤ ((k - 1 : Nat) : Int) := by omega
          have hk6 : IntKind.i64.wrap ((k - 1 : Nat) : Int) = ((k - 1 : Nat) : Int) := IntWalk.i64_in _ (by omega)
          have hk7 : decide (0 < k) = true := by simp; omega
          have hk8 : IntKind.i64.wrap (y.2.2 + 1) = y.2.2 + 1 := IntWalk.i64_in _ (by omega)
          clear hfy
          by_cases g1 : x.1 < y.1
          · skip
            have hA : decide (ApartS y.1 y.2.2 x.1 x.2.1) = false := decide_eq_false (by unfold ApartS; omega)
            rw [hA] at HOK
            clear hA
            go_quiet (fail)
            have hv2 : ¬ okFrom none xs = true := by rw [HOK.out]; simp
            have HV2 : V = 2 := HV.out.trans (if_neg hv2)
            subst HV2
            clear hv2
            have CE := Lib.hid (CW.out.drewN nq)
            go_wp2
            go_ret
            exact ⟨rfl, CE.out⟩
          by_cases g2 : x.1 = y.1
          rotate_left
          · skip
            have hA : decide (ApartS y.1 y.2.2 x.1 x.2.1) = true := decide_eq_true (by unfold ApartS; omega)
            rw [hA] at HOK
            clear hA
            go_quiet (fail)
            have e1 : prevS xs (k + 1) = some x := by unfold prevS; rw [if_neg (by omega)]; exact EX.out
            have CE := Lib.hid (CW.out.drewN nq)
            go_wp2
            go_round
            case rel =>
              refine ⟨k + 1, by omega, by go_num, CE.out, ?_, ?_⟩
              · rw [HOK.out]; simp [e1]
              · rw [e1]; rintro y ⟨⟩; exact HFN.out
            case measure => simp [RowKit.intOf]; omega
          by_cases g3 : x.2.1 ≤ y.2.2 + 1
          · skip
            have hA : decide (ApartS y.1 y.2.2 x.1 x.2.1) = false := decide_eq_false (by unfold ApartS; omega)
            rw [hA] at HOK
            clear hA
            go_quiet (fail)
            have hv2 : ¬ okFrom none xs = true := by rw [HOK.out]; simp
            have HV2 : V = 2 := HV.out.trans (if_neg hv2)
            subst HV2
            clear hv2
            have CE := Lib.hid (CW.out.drewN nq)
            go_wp2
            go_ret
            exact ⟨rfl, CE.out⟩
          · skip
            have hA : decide (ApartS y.1 y.2.2 x.1 x.2.1) = true := decide_eq_true (by unfold ApartS; omega)
            rw [hA] at HOK
            clear hA
            go_quiet (fail)
            have e1 : prevS xs (k + 1) = some x := by unfold prevS; rw [if_neg (by omega)]; exact EX.out
            have CE := Lib.hid (CW.out.drewN nq)
            go_wp2
            go_round
            case rel =>
              refine ⟨k + 1, by omega, by go_num, CE.out, ?_, ?_⟩
              · rw [HOK.out]; simp [e1]
              · rw [e1]; rintro y ⟨⟩; exact HFN.out
            case measure => simp [RowKit.intOf]; omega
      · obtain rfl : k = xs.length := by omega
        have hv := HI.out.2.1
        rw [List.drop_length] at hv
        have hv2 : okFrom none xs = true := by rw [hv]; cases prevS xs xs.length <;> rfl
        have HV2 : V = 0 := HV.out.trans (if_pos hv2)
        subst HV2
        clear hv hv2
        go_wp2
        go_ret
        exact ⟨rfl, HI.out.1⟩
end
section
open Go.RowKit Go.Lib
set_option linter.unusedSimpArgs false
set_option linter.unusedVariables false

/-- A span's bytes. -/
def spanB (x : Int × Int × Int) : List UInt8 := UInt8.ofNat x.1.toNat :: (be 4 x.2.1.toNat ++ be 4 x.2.2.toNat)
theorem spanB_len (x : Int × Int × Int) : (spanB x).length = 9 := by simp [spanB, be_len]
/-- A past's bytes. -/
def spansB (xs : List (Int × Int × Int)) : List UInt8 := UInt8.ofNat (xs.length / 256) :: UInt8.ofNat xs.length :: xs.flatMap spanB
theorem four_cells {n : Int} (h0 : 0 ≤ n) (h1 : n ≤ 2147483647) : [Value.int .u8 (n / 16777216 % 256), Value.int .u8 (n / 65536 % 256), Value.int .u8 (n / 256 % 256), Value.int .u8 (n % 256)] = (be 4 n.toNat).map bv := by
  have e : ∀ a b : Int, a = b → Value.int .u8 a = Value.int .u8 b := fun _ _ h => by rw [h]
  simp only [be, List.map_cons, List.map_nil, bv, UInt8.toNat_ofNat']
  rw [e (n / 16777216 % 256) _ (show n / 16777216 % 256 = ((n.toNat / 256 ^ 3 % 2 ^ 8 : Nat) : Int) by omega), e (n / 65536 % 256) _ (show n / 65536 % 256 = ((n.toNat / 256 ^ 2 % 2 ^ 8 : Nat) : Int) by omega),
    e (n / 256 % 256) _ (show n / 256 % 256 = ((n.toNat / 256 ^ 1 % 2 ^ 8 : Nat) : Int) by omega), e (n % 256) _ (show n % 256 = ((n.toNat / 256 ^ 0 % 2 ^ 8 : Nat) : Int) by omega)]
theorem Bs.row {w : World} {g : Nat} {ys : List UInt8} (h : w.heap[g]? = some (.cells (ys.map bv).toArray 5 (0, 0))) (hl : ys.length ≤ maxLen) : Bs w (some ⟨g, 0, none⟩) ys.length ys :=
  (OwnB.of (full := ys) (c := ys.length) h (Nat.le_refl _) hl rfl (List.take_length)).reads
theorem pafour_any (w : World) (n : Int) (h0 : 0 ≤ n) (h1 : n ≤ 2147483647) :
    Calls Tryz.prog 71 #[.int .i64 n] w fun e w' => e = .returned (.slice (some ⟨w.heap.size, 0, none⟩) 4 4) ∧ Bs w' (some ⟨w.heap.size, 0, none⟩) 4 (be 4 n.toNat) ∧ Chg [] w w' := by
  have HC := Lib.hid (four_cells h0 h1)
  clear h0 h1
  go_enter Tryz.func71, Tryz.ntmps71
  go_wp2
  go_ret
  refine ⟨rfl, ?_, (Chg.refl _ _).alloc _⟩
  have := Bs.row (ys := be 4 n.toNat) (w := w.alloc (.cells ((be 4 n.toNat).map bv).toArray 5)) (g := w.heap.size) (heap_alloc_new w _) (by rw [be_len]; decide)
  rw [be_len] at this
  have e := HC.out
  rw [← e] at this
  exact this
end
section
open Go.RowKit Go.Lib
set_option linter.unusedSimpArgs false
set_option linter.unusedVariables false

theorem okFrom_fine : ∀ (p : Option (Int × Int × Int)) (xs : List (Int × Int × Int)), okFrom p xs = true → ∀ x ∈ xs, FineS x.1 x.2.1 x.2.2
  | _, [], _, x, hx => by simp at hx
  | none, y :: l, h, x, hx => by
    simp only [okFrom, Bool.and_eq_true, decide_eq_true_eq] at h
    rcases List.mem_cons.1 hx with rfl | hx
    · exact h.1
    · exact okFrom_fine _ l h.2 x hx
  | some _, y :: l, h, x, hx => by
    simp only [okFrom, Bool.and_eq_true, decide_eq_true_eq] at h
    rcases List.mem_cons.1 hx with rfl | hx
    · exact h.1.1
    · exact okFrom_fine _ l h.2 x hx
theorem chkS_zero {xs : List (Int × Int × Int)} (h : chkS xs = 0) : xs.length ≤ 4000 ∧ ∀ x ∈ xs, FineS x.1 x.2.1 x.2.2 := by
  unfold chkS at h
  split at h
  · rename_i hc; exact ⟨hc.1, okFrom_fine _ _ hc.2⟩
  · cases h
theorem chkS_odd {xs : List (Int × Int × Int)} (h : chkS xs ≠ 0) : chkS xs = 2 := by
  unfold chkS at h ⊢
  split at h
  · exact absurd rfl h
  · rename_i hc; rw [if_neg hc]
def bytesO (xs : List (Int × Int × Int)) : List UInt8 := if chkS xs = 0 then spansB xs else []
theorem span_cells {x : Int × Int × Int} (h : FineS x.1 x.2.1 x.2.2) : [Value.int .u8 (x.1 % 256), .int .u8 (x.2.1 / 16777216 % 256), .int .u8 (x.2.1 / 65536 % 256), .int .u8 (x.2.1 / 256 % 256), .int .u8 (x.2.1 % 256), .int .u8 (x.2.2 / 16777216 % 256), .int .u8 (x.2.2 / 65536 % 256), .int .u8 (x.2.2 / 256 % 256), .int .u8 (x.2.2 % 256)] = (spanB x).map bv := by
  obtain ⟨h1, h2, h3, h4, h5⟩ := h
  have e1 := four_cells (n := x.2.1) (by omega) (by omega)
  have e2 := four_cells (n := x.2.2) (by omega) (by omega)
  have e0 : Value.int .u8 (x.1 % 256) = bv (UInt8.ofNat x.1.toNat) := by
    unfold bv
    rw [UInt8.toNat_ofNat']
    congr 1
    omega
  rw [spanB, List.map_cons, List.map_append, ← e1, ← e2, e0]
  rfl
/-- The first two bytes: how many spans. -/
def headB (n : Nat) : List UInt8 := [UInt8.ofNat (n / 256), UInt8.ofNat n]
theorem head_cells {n : Nat} (h : n ≤ 4000) : [Value.int .u8 ((n : Int) / 256), Value.int .u8 ((n : Int) % 256)] = (headB n).map bv := by
  have e : ∀ a b : Int, a = b → Value.int .u8 a = Value.int .u8 b := fun _ _ h => by rw [h]
  simp only [headB, List.map_cons, List.map_nil, bv, UInt8.toNat_ofNat']
  rw [e ((n : Int) / 256) _ (show (n : Int) / 256 = ((n / 256 % 2 ^ 8 : Nat) : Int) by omega), e ((n : Int) % 256) _ (show (n : Int) % 256 = ((n % 2 ^ 8 : Nat) : Int) by omega)]
theorem takeB {xs : List (Int × Int × Int)} {k : Nat} {x : Int × Int × Int} (h : xs[k]? = some x) (hd : List UInt8) : hd ++ (xs.take (k + 1)).flatMap spanB = (hd ++ (xs.take k).flatMap spanB) ++ spanB x := by
  rw [List.take_add_one, h]
  simp
theorem flat_len (l : List (Int × Int × Int)) : (l.flatMap spanB).length = 9 * l.length := by
  induction l with
  | nil => rfl
  | cons x l ih => rw [List.flatMap_cons, List.length_append, spanB_len, ih, List.length_cons]; omega
set_option maxHeartbeats 4000000 in
set_option maxRecDepth 100000 in
theorem qbytes_any (w : World) (A : Option Addr) (n c : Nat) (xs : List (Int × Int × Int)) (h : RdK spanTy w A n xs) (hn : n ≤ 140737488351232) :
    Calls Tryz.prog 37 #[.slice A n c] w fun e w' => ∃ A' c', e = .returned (.tuple #[.slice A' (bytesO xs).length c', .int .i64 (chkS xs)]) ∧ Fresh w w' A' c' (bytesO xs) := by
  have hl := h.len
  subst hl
  have r1 := qacheck_any w A xs.length c xs h hn
  by_cases hk : chkS xs = 0
  · have hx := chkS_zero hk
    rw [hk] at r1
    rw [show bytesO xs = spansB xs by unfold bytesO; rw [if_pos hk], hk]
    have HX := Lib.hid h
    have HF := Lib.hid hx.2
    have hlen := hx.1
    have R1 := Lib.hid r1
    clear h hk hx r1 hn
    go_enter Tryz.func37, Tryz.ntmps37
    go_wp2_with fail
    refine R1.out.mono ?_
    rintro e w1 ⟨rfl, hc⟩
    have C := Lib.hid hc
    clear hc R1
    obtain ⟨w2, hw2, c2, b2⟩ := news1 w1 (.cells #[.int .u8 ((xs.length : Int) / 256), .int .u8 ((xs.length : Int) % 256)] 5)
    go_upto_region 4 with fail
    rw [← hw2]
    have ho : OwnB w2 (some ⟨w1.heap.size, 0, none⟩) 2 (headB xs.length) := by
      refine .of (full := headB xs.length) ?_ (by simp [headB]) (by decide) rfl rfl
      rw [← head_cells hlen]
      exact b2
    have HO := Lib.hid ho
    have CW := Lib.hid (C.out.trans c2)
    have SZ := Lib.hid C.out.size
    clear hw2 c2 b2 ho C
    generalize w1.heap.size = s1 at *
    go_wp2
    go_loopw [4, 5] (fun v4 v5 wr => ∃ (k : Nat) (B : Option Addr) (cc : Nat), k ≤ xs.length ∧ v4 = .slice B (2 + 9 * k) cc ∧ v5 = .int .i64 k ∧ Hid (OwnB wr B cc (headB xs.length ++ (xs.take k).flatMap spanB) ∧ (∀ a, B = some a → w.heap.size ≤ a.block) ∧ Chg [] w wr)) (fun _ v5 _ => xs.length - (RowKit.intOf v5).toNat)
    case atStart => exact ⟨0, some ⟨s1, 0, none⟩, 2, Nat.zero_le _, rfl, rfl, by simpa using HO.out, by rintro a ⟨⟩; exact SZ.out, CW.out⟩
    case round =>
      obtain ⟨k, B, cc, hk, rfl, rfl, HI⟩ := hrel
      generalize wr = w4 at *
      clear wr
      by_cases hlt : k < xs.length
      · obtain ⟨g, o, eA, _⟩ := HX.out.line (by omega)
        subst eA
        have ex := List.getElem?_eq_getElem hlt
        have hfin := HF.out _ (List.getElem_mem hlt)
        generalize xs[k] = x at *
        have EX := Lib.hid ex
        have HS := Lib.hid (span_cells hfin)
        obtain ⟨p0, p1, p2⟩ := spanCells (HX.out.chg HI.out.2.2 (by simp)) ex
        have i0 : (0 : Int) ≤ (k : Int) := by omega
        have i1 : (k : Int) < (xs.length : Int) := by omega
        clear ex hfin
        obtain ⟨w5, hw5, c5, b5⟩ := news1 w4 (.cells #[.int .i64 x.1, .int .i64 x.2.1, .int .i64 x.2.2] 88)
        go_upto_region 8 with fail
        rw [← hw5]
        have z0 := cell_of b5 0
        have z1 := cell_of b5 1
        have z2 := cell_of b5 2
        simp only [List.getElem?_toArray, List.getElem?_cons_succ, List.getElem?_cons_zero] at z0 z1 z2
        have HI5 := Lib.hid c5
        clear hw5 c5 b5 p0 p1 p2
        generalize w4.heap.size = s5 at *
        obtain ⟨w6, hw6, c6, b6⟩ := news1 w5 (.cells #[.int .u8 (x.1 % 256), .int .u8 (x.2.1 / 16777216 % 256), .int .u8 (x.2.1 / 65536 % 256), .int .u8 (x.2.1 / 256 % 256), .int .u8 (x.2.1 % 256), .int .u8 (x.2.2 / 16777216 % 256), .int .u8 (x.2.2 / 65536 % 256), .int .u8 (x.2.2 / 256 % 256), .int .u8 (x.2.2 % 256)] 5)
        have W6 := Lib.hid hw6
        have C6 := Lib.hid (HI5.out.trans c6)
        have LN := Lib.hid (show (headB xs.length ++ (xs.take k).flatMap spanB).length = 2 + 9 * k by rw [List.length_append, flat_len, List.length_take, Nat.min_eq_left hk]; rfl)
        have OW := Lib.hid (HI.out.1.chg C6.out (by simp))
        have RD := Lib.hid (show Bs w6 (some ⟨w5.heap.size, 0, none⟩) 9 (spanB x) by
          have := Bs.row (ys := spanB x) (w := w6) (g := w5.heap.size) (by rw [← HS.out]; exact b6) (by rw [spanB_len]; decide)
          rwa [spanB_len] at this)
        have BD := Lib.hid (show 2 + 9 * k + 9 ≤ 140737488355327 by omega)
        clear hw6 c6 b6
        go_wp2_with (at_builtin; rw [← W6.out]; refine wpList_app rfl _ _ rfl rfl OW.out LN.out rfl RD.out BD.out ?_; intro A2 c2 w7 u2 d2 e2)
        have CE := Lib.hid ((HI.out.2.2.trans C6.out).grown d2 (fun i hi => by
          cases B with
          | none => simp at hi
          | some a => simp at hi; subst hi; exact .inr (HI.out.2.1 a rfl)))
        have HE : Hid (∀ a, A2 = some a → w.heap.size ≤ a.block) := Lib.hid (by
          rcases e2 with rfl | rfl
          · exact HI.out.2.1
          · rintro a ⟨⟩; exact (HI.out.2.2.trans C6.out).size)
        have U2 := Lib.hid u2
        clear u2 d2 e2 z0 z1 z2
        go_wp2
        go_round
        case rel => exact ⟨k + 1, A2, c2, by omega, by congr 1, by go_num, by rw [takeB EX.out]; exact U2.out, HE.out, CE.out⟩
        case measure => simp [RowKit.intOf]; omega
      · obtain rfl : k = xs.length := by omega
        have hb : headB xs.length ++ (xs.take xs.length).flatMap spanB = spansB xs := by rw [List.take_length]; rfl
        have hl2 : (spansB xs).length = 2 + 9 * xs.length := by rw [← hb, List.length_append, flat_len, List.take_length]; rfl
        have HR := HI.out
        rw [hb] at HR
        rw [← hl2] at *
        have HR := Lib.hid HR
        clear hb hl2
        go_wp2
        go_ret2
        exact ⟨B, cc, rfl, HR.out⟩
  · have h2 := chkS_odd hk
    rw [h2] at r1
    rw [show bytesO xs = [] by unfold bytesO; rw [if_neg hk], h2]
    have R1 := Lib.hid r1
    clear h hk r1 hn h2
    go_enter Tryz.func37, Tryz.ntmps37
    go_wp2_with fail
    refine R1.out.mono ?_
    rintro e w1 ⟨rfl, hc⟩
    have C := Lib.hid hc
    clear hc R1
    go_wp2
    go_ret2
    exact ⟨none, 0, rfl, OwnB.none_ _, by simp, C.out⟩
end
section
open Go.RowKit Go.Lib
set_option linter.unusedSimpArgs false
set_option linter.unusedVariables false
/-- So many zeros. -/
def zeroRowP (n : Nat) : Array Value := ((List.replicate n (0 : UInt8)).map bv).toArray
theorem run_mkP (n : Nat) (c : Int) (hc : c = (n : Int)) (h : n ≤ 140737488351232) (w : World) : (Instr.makeSlice 22 (.int .i64 0) (.int .i64 c)).run Tryz.prog w = .ok (.slice (some ⟨w.heap.size, 0, none⟩) 0 n) (w.alloc (.cells (zeroRowP n) 5)) := by
  subst hc
  obtain ⟨i0, hi, hz0, hz1, hz2⟩ := info_parts info8
  have hr := run_make (P := Tryz.prog) w 22 5 i0 (.int .u8 0) Tryz.underlying22 hi hz0 .i64 .i64 0 n (by omega) (by omega) (by rw [hz2]; omega) (by omega)
  rw [hr, hz1, Int.toNat_natCast, Nat.mul_one]
  have e : madeCells (Value.int .u8 0).cells n = zeroRowP n := by
    apply Array.toList_inj.1
    show (madeCells #[.int .u8 0] n).toList = _
    rw [toList_madeCells_one]
    simp [zeroRowP, bv]
  rw [e]
  rfl
theorem OwnB.zeros {w : World} (n : Nat) (h : n ≤ maxLen) : OwnB (w.alloc (.cells (zeroRowP n) 5)) (some ⟨w.heap.size, 0, none⟩) n [] :=
  .of (full := List.replicate n 0) (heap_alloc_new w _) (Nat.zero_le _) h (by simp) rfl
/-- What an append makes of a row of one's own. -/
theorem app_own {w w6 w7 : World} {B A2 : Option Addr} (hB : ∀ a, B = some a → w.heap.size ≤ a.block) (hC : Chg [] w w6) (d2 : w6.grownBy w7 (B.map (·.block))) (e2 : A2 = B ∨ A2 = some ⟨w6.heap.size, 0, none⟩) : (∀ a, A2 = some a → w.heap.size ≤ a.block) ∧ Chg [] w w7 := by
  refine ⟨?_, hC.grown d2 (fun i hi => ?_)⟩
  · rcases e2 with rfl | rfl
    · exact hB
    · rintro a ⟨⟩; exact hC.size
  · cases B with
    | none => simp at hi
    | some a => simp at hi; subst hi; exact .inr (hB a rfl)
theorem Bs.byte {w : World} {g : Nat} {v : Int} {c : UInt8} (hv : Value.int .u8 v = bv c) (h : w.heap[g]? = some (.cells #[.int .u8 v] 5 (0, 0))) : Bs w (some ⟨g, 0, none⟩) 1 [c] := by
  refine Bs.row (ys := [c]) ?_ (show 1 ≤ maxLen by decide)
  rw [h, hv]
  rfl
set_option maxHeartbeats 8000000 in
set_option maxRecDepth 100000 in
theorem pabytes_any (w : World) (A : Option Addr) (n c : Nat) (xs : List (Int × Int × Int)) (h : RdK spanTy w A n xs) (hn : n ≤ 140737488351232) :
    Calls Tryz.prog 30 #[.slice A n c] w fun e w' => ∃ A' c', e = .returned (.tuple #[.slice A' (bytesO xs).length c', .int .i64 (chkS xs)]) ∧ Fresh w w' A' c' (bytesO xs) := by
  have hl := h.len
  subst hl
  have r1 := pacheck_any w A xs.length c xs h hn
  by_cases hk : chkS xs = 0
  · have hx := chkS_zero hk
    rw [hk] at r1
    rw [show bytesO xs = spansB xs by unfold bytesO; rw [if_pos hk], hk]
    have HX := Lib.hid h
    have HF := Lib.hid hx.2
    have hlen := hx.1
    have R1 := Lib.hid r1
    have hmk := fun W => run_mkP (2 + 9 * xs.length) (2 + 9 * (xs.length : Int)) (by omega) (by omega) W
    clear h hk hx r1 hn
    go_enter Tryz.func30, Tryz.ntmps30
    go_wp2_with fail
    refine R1.out.mono ?_
    rintro e w1 ⟨rfl, hc⟩
    have C := Lib.hid hc
    clear hc R1
    obtain ⟨w2, hw2, c2, b2⟩ := news1 w1 (.cells (zeroRowP (2 + 9 * xs.length)) 5)
    have W2 := Lib.hid hw2
    have O2 : Hid (OwnB w2 (some ⟨w1.heap.size, 0, none⟩) (2 + 9 * xs.length) []) := Lib.hid (by rw [hw2]; exact OwnB.zeros _ (by unfold maxLen; omega))
    have C2 := Lib.hid (C.out.trans c2)
    have SZ := Lib.hid C.out.size
    clear hw2 c2 b2 C
    go_upto_region 5 with fail
    rw [← W2.out]
    clear W2 hmk
    generalize w1.heap.size = s1 at *
    obtain ⟨w3, hw3, c3, b3⟩ := news1 w2 (.cells #[.int .u8 ((xs.length : Int) / 256), .int .u8 ((xs.length : Int) % 256)] 5)
    have W3 := Lib.hid hw3
    have C3 := Lib.hid (C2.out.trans c3)
    have O3 := Lib.hid (O2.out.chg c3 (by simp))
    have RD := Lib.hid (show Bs w3 (some ⟨w2.heap.size, 0, none⟩) 2 (headB xs.length) from Bs.row (ys := headB xs.length) (by rw [← head_cells hlen]; exact b3) (show 2 ≤ maxLen by decide))
    have BD : Hid (0 + 2 ≤ 140737488355327) := Lib.hid (by decide)
    clear hw3 c3 b3
    go_wp2_with (at_builtin; rw [← W3.out]; refine wpList_app rfl _ _ rfl rfl O3.out rfl rfl RD.out BD.out ?_; intro A2 c2 w4 u2 d2 e2)
    have AO := app_own (w := w) (by rintro a ⟨⟩; exact SZ.out) C3.out d2 e2
    have OI := Lib.hid (And.intro u2 AO)
    clear u2 d2 e2 AO W3 C3 O3 RD BD C2 O2
    go_wp2
    go_loopw [5, 30] (fun v5 v30 wr => ∃ (k : Nat) (B : Option Addr) (cc : Nat), k ≤ xs.length ∧ v5 = .slice B (2 + 9 * k) cc ∧ v30 = .int .i64 k ∧ Hid (OwnB wr B cc (headB xs.length ++ (xs.take k).flatMap spanB) ∧ (∀ a, B = some a → w.heap.size ≤ a.block) ∧ Chg [] w wr)) (fun _ v30 _ => xs.length - (RowKit.intOf v30).toNat)
    case atStart => exact ⟨0, A2, c2, Nat.zero_le _, rfl, rfl, by simpa using OI.out.1, OI.out.2.1, OI.out.2.2⟩
    case round =>
      clear OI
      obtain ⟨k, B, cc, hk, rfl, rfl, HI⟩ := hrel
      generalize wr = w5 at *
      clear wr
      by_cases hlt : k < xs.length
      · obtain ⟨g, o, eA, _⟩ := HX.out.line (by omega)
        subst eA
        have ex := List.getElem?_eq_getElem hlt
        have hfin := HF.out _ (List.getElem_mem hlt)
        generalize xs[k] = x at *
        have EX := Lib.hid ex
        have FN := Lib.hid hfin
        obtain ⟨p0, p1, p2⟩ := spanCells (HX.out.chg HI.out.2.2 (by simp)) ex
        have i0 : (0 : Int) ≤ (k : Int) := by omega
        have i1 : (k : Int) < (xs.length : Int) := by omega
        clear ex hfin
        obtain ⟨w6, hw6, c6, b6⟩ := news1 w5 (.cells #[.int .i64 x.1, .int .i64 x.2.1, .int .i64 x.2.2] 88)
        go_upto_region 9 with fail
        rw [← hw6]
        have P6 := Lib.hid b6
        have C6 := Lib.hid (HI.out.2.2.trans c6)
        have O6 := Lib.hid (HI.out.1.chg c6 (by simp))
        have B6 := Lib.hid HI.out.2.1
        have L6 := Lib.hid (show (headB xs.length ++ (xs.take k).flatMap spanB).length = 2 + 9 * k by rw [List.length_append, flat_len, List.length_take, Nat.min_eq_left hk]; rfl)
        clear hw6 c6 b6 p0 p1 p2
        generalize w5.heap.size = s5 at *
        generalize hy : headB xs.length ++ (xs.take k).flatMap spanB = ys at *
        have HY := Lib.hid hy
        clear hy
        have z0 := cell_of P6.out 0
        simp only [List.getElem?_toArray, List.getElem?_cons_succ, List.getElem?_cons_zero] at z0
        obtain ⟨w7, hw, c7, b7⟩ := news1 w6 (.cells #[.int .u8 (x.1 % 256)] 5)
        have WN := Lib.hid hw
        have RD := Lib.hid (show Bs w7 (some ⟨w6.heap.size, 0, none⟩) 1 [UInt8.ofNat x.1.toNat] from Bs.byte (by
          have hf := FN.out
          unfold FineS at hf
          unfold bv
          rw [UInt8.toNat_ofNat']
          congr 1
          omega) b7)
        have C7 := Lib.hid (C6.out.trans c7)
        have O7 := Lib.hid (O6.out.chg c7 (by simp))
        have P7 := Lib.hid (c7.at_ P6.out (by simp))
        clear hw c7 b7
        have BD := Lib.hid (show 2 + 9 * k + 1 ≤ 140737488355327 by omega)
        go_wp2_with (at_builtin; rw [← WN.out]; refine wpList_app rfl _ _ rfl rfl O7.out L6.out rfl RD.out BD.out ?_; intro A3 cc0 w8 u2 d2 e2; have P6 := Lib.hid (grown_at d2 P7.out (O7.out.ne P7.out (by decide))); have z1 := cell_of P6.out 1; simp only [List.getElem?_toArray, List.getElem?_cons_succ, List.getElem?_cons_zero] at z1)
        have AO := app_own (w := w) B6.out C7.out d2 e2
        have O6 := Lib.hid u2
        have L6 := Lib.hid (show (ys ++ [UInt8.ofNat x.1.toNat]).length = 2 + 9 * k + 1 by rw [List.length_append, L6.out]; simp [be_len])
        have B6 := Lib.hid AO.1
        have C6 := Lib.hid AO.2
        clear u2 d2 e2 AO C7 O7 P7 RD BD z0 WN
        refine (pafour_any _ x.2.1 (by have := FN.out; unfold FineS at this; omega) (by have := FN.out; unfold FineS at this; omega)).mono ?_
        rintro e w9 ⟨rfl, hb, c7⟩
        have RD := Lib.hid hb
        have C7 := Lib.hid (C6.out.trans c7)
        have O7 := Lib.hid (O6.out.chg c7 (by simp))
        have P7 := Lib.hid (c7.at_ P6.out (by simp))
        clear hb c7
        have BD := Lib.hid (show 2 + 9 * k + 1 + 4 ≤ 140737488355327 by omega)
        go_wp2_with (at_builtin; refine wpList_app rfl _ _ rfl rfl O7.out L6.out rfl RD.out BD.out ?_; intro A4 cc1 w10 u2 d2 e2; have P6 := Lib.hid (grown_at d2 P7.out (O7.out.ne P7.out (by decide))); have z2 := cell_of P6.out 2; simp only [List.getElem?_toArray, List.getElem?_cons_succ, List.getElem?_cons_zero] at z2)
        have AO := app_own (w := w) B6.out C7.out d2 e2
        have O6 := Lib.hid u2
        have L6 := Lib.hid (show (ys ++ [UInt8.ofNat x.1.toNat] ++ be 4 x.2.1.toNat).length = 2 + 9 * k + 1 + 4 by rw [List.length_append, L6.out]; simp [be_len])
        have B6 := Lib.hid AO.1
        have C6 := Lib.hid AO.2
        clear u2 d2 e2 AO C7 O7 P7 RD BD z1
        refine (pafour_any _ x.2.2 (by have := FN.out; unfold FineS at this; omega) (by have := FN.out; unfold FineS at this; omega)).mono ?_
        rintro e w11 ⟨rfl, hb, c7⟩
        have RD := Lib.hid hb
        have C7 := Lib.hid (C6.out.trans c7)
        have O7 := Lib.hid (O6.out.chg c7 (by simp))
        have P7 := Lib.hid (c7.at_ P6.out (by simp))
        clear hb c7
        have BD := Lib.hid (show 2 + 9 * k + 1 + 4 + 4 ≤ 140737488355327 by omega)
        go_wp2_with (at_builtin; refine wpList_app rfl _ _ rfl rfl O7.out L6.out rfl RD.out BD.out ?_; intro A5 cc2 w12 u2 d2 e2; have P6 := Lib.hid (grown_at d2 P7.out (O7.out.ne P7.out (by decide))))
        have AO := app_own (w := w) B6.out C7.out d2 e2
        have O6 := Lib.hid u2
        have L6 := Lib.hid (show (ys ++ [UInt8.ofNat x.1.toNat] ++ be 4 x.2.1.toNat ++ be 4 x.2.2.toNat).length = 2 + 9 * k + 1 + 4 + 4 by rw [List.length_append, L6.out]; simp [be_len])
        have B6 := Lib.hid AO.1
        have C6 := Lib.hid AO.2
        clear u2 d2 e2 AO C7 O7 P7 RD BD z2
        refine ⟨⟨k + 1, A5, cc2, by omega, by congr 1, by go_num, ?_, B6.out, C6.out⟩, by simp [RowKit.intOf]; omega⟩
        rw [takeB EX.out, HY.out]
        have hq := O6.out
        simpa [spanB] using hq
      · obtain rfl : k = xs.length := by omega
        have hb : headB xs.length ++ (xs.take xs.length).flatMap spanB = spansB xs := by rw [List.take_length]; rfl
        have hl2 : (spansB xs).length = 2 + 9 * xs.length := by rw [← hb, List.length_append, flat_len, List.take_length]; rfl
        have HR := HI.out
        rw [hb] at HR
        rw [← hl2] at *
        have HR := Lib.hid HR
        clear hb hl2
        go_wp2
        go_ret2
        exact ⟨B, cc, rfl, HR.out⟩
  · have h2 := chkS_odd hk
    rw [h2] at r1
    rw [show bytesO xs = [] by unfold bytesO; rw [if_neg hk], h2]
    have R1 := Lib.hid r1
    clear h hk r1 hn h2
    go_enter Tryz.func30, Tryz.ntmps30
    go_wp2_with fail
    refine R1.out.mono ?_
    rintro e w1 ⟨rfl, hc⟩
    have C := Lib.hid hc
    clear hc R1
    go_wp2
    go_ret2
    exact ⟨none, 0, rfl, OwnB.none_ _, by simp, C.out⟩
end
section
open Go.RowKit

/-- What stands between the bytes 47 of a text; acc: what was read of the first one. -/
def cutA : List UInt8 → List UInt8 → List (List UInt8)
  | acc, [] => [acc]
  | acc, b :: l => if b = 47 then acc :: cutA [] l else cutA (acc ++ [b]) l
def cutL (l : List UInt8) : List (List UInt8) := cutA [] l
theorem cutA_ne : ∀ acc l, cutA acc l ≠ []
  | acc, [] => by simp [cutA]
  | acc, b :: l => by
    unfold cutA
    split
    · simp
    · exact cutA_ne _ l
theorem cutA_no : ∀ (l acc : List UInt8), 47 ∉ l → cutA acc l = [acc ++ l]
  | [], acc, _ => by simp [cutA]
  | b :: l, acc, h => by
    simp only [List.mem_cons, not_or] at h
    rw [cutA, if_neg (fun e => h.1 e.symm), cutA_no l _ h.2, List.append_assoc]
    rfl
theorem cutA_at : ∀ (a acc b : List UInt8), 47 ∉ a → cutA acc (a ++ 47 :: b) = (acc ++ a) :: cutA [] b
  | [], acc, b, _ => by simp [cutA]
  | x :: a, acc, b, h => by
    simp only [List.mem_cons, not_or] at h
    rw [List.cons_append, cutA, if_neg (fun e => h.1 e.symm), cutA_at a _ b h.2, List.append_assoc]
    rfl
theorem cutA_len (l : List UInt8) : ∀ acc, (cutA acc l).length ≤ l.length + 1 := by
  induction l with
  | nil => intro acc; simp [cutA]
  | cons b l ih =>
    intro acc
    unfold cutA
    split
    · have := ih []; simp; omega
    · have := ih (acc ++ [b]); simp; omega

/-- May a byte be in a part? -/
def okB (b : UInt8) : Bool := (97 ≤ b.toNat && b.toNat ≤ 122) || (48 ≤ b.toNat && b.toNat ≤ 57) || b == 46 || b == 95 || b == 45
def partL (most : Nat) (p : List UInt8) : Bool := p.all okB && decide (1 ≤ p.length) && decide (p.length ≤ most) && p != [46] && p != [46, 46]
def checkL (parts most : Nat) (l : List UInt8) : Bool := decide ((cutL l).length ≤ parts) && (cutL l).all (partL most)
/-- Has a letter no place in a part? -/
def foreignR (c : Nat) : Bool := !((97 ≤ c && c ≤ 122) || (48 ≤ c && c ≤ 57) || c == 46 || c == 95 || c == 45)
theorem foreign_byte (b : UInt8) : foreignR b.toNat = !okB b := by
  have e : ∀ k : UInt8, (b.toNat == k.toNat) = (b == k) := fun k => by
    rw [Bool.eq_iff_iff, beq_iff_eq, beq_iff_eq]
    exact ⟨fun h => UInt8.toNat_inj.1 h, fun h => by rw [h]⟩
  unfold foreignR okB
  have e1 := e 46
  have e2 := e 95
  have e3 := e 45
  simp only [show (46 : UInt8).toNat = 46 from rfl, show (95 : UInt8).toNat = 95 from rfl, show (45 : UInt8).toNat = 45 from rfl] at e1 e2 e3
  rw [e1, e2, e3]
theorem foreign_ge {c : Nat} (h : 128 ≤ c) : foreignR c = true := by
  simp [foreignR]
  omega
theorem decodeN_ge (n b0 b1 b2 b3 : Nat) (h : 128 ≤ b0) : 128 ≤ (Lib.decodeN n b0 b1 b2 b3).1 := by
  unfold Lib.decodeN
  repeat' split
  all_goals first | omega | (simp only; omega)
theorem get_at (s : ByteArray) (i : Nat) (b : UInt8) (h : s.data.toList[i]? = some b) : s.get! i = b := by
  have hi : i < s.data.size := by
    have := (List.getElem?_eq_some_iff.1 h).1
    simpa using this
  have : s.data[i]? = some b := by rwa [Array.getElem?_toList] at h
  show s.data[i]! = b
  rw [getElem!_pos s.data i hi]
  exact (Array.getElem?_eq_some_iff.1 this).2
/-- The letter at a byte that may be in a part is that byte; at another one it has no place in a part. -/
theorem foreign_at (s : ByteArray) (i : Nat) (b : UInt8) (h : s.data.toList[i]? = some b) : foreignR (Utf8.decode s i).1 = !okB b ∧ (okB b = true → (Utf8.decode s i).2 = 1) := by
  rw [Lib.decode_at, get_at s i b h]
  by_cases hb : b.toNat < 128
  · have e : ∀ n x y z, Lib.decodeN n b.toNat x y z = (b.toNat, 1) := fun n x y z => by unfold Lib.decodeN; rw [if_pos hb]
    rw [e]
    exact ⟨foreign_byte b, fun _ => rfl⟩
  · have hb : 128 ≤ b.toNat := by omega
    have ho : okB b = false := by
      have := foreign_byte b
      rw [foreign_ge hb] at this
      simpa using this.symm
    rw [ho]
    exact ⟨foreign_ge (decodeN_ge _ _ _ _ _ hb), fun h => by cases h⟩
end
section
set_option linter.unusedSimpArgs false
set_option linter.unusedVariables false

abbrev Sp := Int × Int × Int
/-- The first is ahead of the second, and does not touch it. -/
def Ap (x y : Sp) : Prop := x.1 < y.1 ∨ x.1 = y.1 ∧ x.2.2 + 1 < y.2.1
instance (x y : Sp) : Decidable (Ap x y) := by unfold Ap; exact inferInstance
def SpOk (x : Sp) : Prop := x.2.1 ≤ x.2.2
/-- Spans in order, none empty, no two touch. -/
def Norm (l : List Sp) : Prop := (∀ x ∈ l, SpOk x) ∧ l.Pairwise Ap
def InS (x : Sp) (n s : Int) : Prop := x.1 = n ∧ x.2.1 ≤ s ∧ s ≤ x.2.2
instance (x : Sp) (n s : Int) : Decidable (InS x n s) := by unfold InS; exact inferInstance
def Mem (l : List Sp) (n s : Int) : Prop := ∃ x ∈ l, InS x n s
instance (l : List Sp) (n s : Int) : Decidable (Mem l n s) := by unfold Mem; exact inferInstance
theorem mem_nil {n s : Int} : ¬ Mem [] n s := by rintro ⟨x, h, _⟩; exact absurd h (by simp)
theorem mem_cons {x : Sp} {l : List Sp} {n s : Int} : Mem (x :: l) n s ↔ InS x n s ∨ Mem l n s := by
  unfold Mem
  constructor
  · rintro ⟨y, hy, hi⟩
    rcases List.mem_cons.1 hy with rfl | h
    · exact .inl hi
    · exact .inr ⟨y, h, hi⟩
  · rintro (h | ⟨y, hy, hi⟩)
    · exact ⟨x, by simp, h⟩
    · exact ⟨y, by simp [hy], hi⟩
theorem mem_append {l m : List Sp} {n s : Int} : Mem (l ++ m) n s ↔ Mem l n s ∨ Mem m n s := by
  unfold Mem
  constructor
  · rintro ⟨y, hy, hi⟩
    rcases List.mem_append.1 hy with h | h
    · exact .inl ⟨y, h, hi⟩
    · exact .inr ⟨y, h, hi⟩
  · rintro (⟨y, hy, hi⟩ | ⟨y, hy, hi⟩)
    · exact ⟨y, by simp [hy], hi⟩
    · exact ⟨y, by simp [hy], hi⟩
theorem Norm.tail {x : Sp} {l : List Sp} (h : Norm (x :: l)) : Norm l := ⟨fun y hy => h.1 y (by simp [hy]), (List.pairwise_cons.1 h.2).2⟩
theorem Norm.head {x : Sp} {l : List Sp} (h : Norm (x :: l)) : SpOk x ∧ ∀ y ∈ l, Ap x y := ⟨h.1 x (by simp), (List.pairwise_cons.1 h.2).1⟩
theorem norm_nil : Norm [] := ⟨by simp, List.Pairwise.nil⟩
theorem norm_cons {x : Sp} {l : List Sp} (hx : SpOk x) (h : Norm l) (ha : ∀ y ∈ l, Ap x y) : Norm (x :: l) := ⟨fun y hy => by
  rcases List.mem_cons.1 hy with rfl | q
  · exact hx
  · exact h.1 y q, List.pairwise_cons.2 ⟨ha, h.2⟩⟩
theorem Ap.trans {x y z : Sp} (h : Ap x y) (k : Ap y z) (o : SpOk y) : Ap x z := by
  unfold Ap SpOk at *
  omega
/-- What is behind the head is not in it. -/
theorem Norm.out {x : Sp} {l : List Sp} (h : Norm (x :: l)) {n s : Int} (hi : InS x n s) : ¬ Mem l n s := by
  rintro ⟨y, hy, hj⟩
  have a := h.head.2 y hy
  unfold Ap InS at *
  omega
/-- A span comes behind the others, or lengthens the last one. -/
def pushP (out : List Sp) (z : Sp) : List Sp :=
  match out.getLast? with
  | none => [z]
  | some y => if Ap y z then out ++ [z] else out.dropLast ++ [(y.1, y.2.1, max y.2.2 z.2.2)]
/-- The first one's beginning is not behind the second one's. -/
def Le (x y : Sp) : Prop := x.1 < y.1 ∨ x.1 = y.1 ∧ x.2.1 ≤ y.2.1
theorem Le.trans {x y z : Sp} (h : Le x y) (k : Le y z) : Le x z := by unfold Le at *; omega
theorem last_split {l : List Sp} {y : Sp} (h : l.getLast? = some y) : l = l.dropLast ++ [y] := by
  obtain ⟨ys, e⟩ := List.getLast?_eq_some_iff.1 h
  rw [e]; simp
theorem mem_one {z : Sp} {n s : Int} : Mem [z] n s ↔ InS z n s := by
  rw [mem_cons]
  exact ⟨fun q => q.resolve_right mem_nil, .inl⟩
theorem norm_app {l : List Sp} {z : Sp} (h : Norm l) (hz : SpOk z) (ha : ∀ y ∈ l, Ap y z) : Norm (l ++ [z]) := by
  refine ⟨fun x hx => ?_, List.pairwise_append.2 ⟨h.2, by simp, fun a ha' b hb => ?_⟩⟩
  · rcases List.mem_append.1 hx with q | q
    · exact h.1 x q
    · simp at q; subst q; exact hz
  · simp at hb; subst hb; exact ha a ha'
theorem push_norm {out : List Sp} {z : Sp} (h : Norm out) (hz : SpOk z) (hl : ∀ y, out.getLast? = some y → Le y z) : Norm (pushP out z) ∧ (∀ n s, Mem (pushP out z) n s ↔ Mem out n s ∨ InS z n s) ∧ ∃ y, (pushP out z).getLast? = some y ∧ Le y z := by
  unfold pushP
  cases hg : out.getLast? with
  | none =>
    have e : out = [] := List.getLast?_eq_none_iff.1 hg
    subst e
    refine ⟨norm_cons hz norm_nil (by simp), fun n s => ?_, z, rfl, .inr ⟨rfl, Int.le_refl _⟩⟩
    show Mem [z] n s ↔ _
    rw [mem_one]
    exact ⟨.inr, fun q => q.resolve_left mem_nil⟩
  | some y =>
    have es := last_split hg
    have le := hl y hg
    have hym : y ∈ out := by rw [es]; simp
    have hd : ∀ x ∈ out.dropLast, Ap x y := by
      have := h.2
      rw [es] at this
      exact fun x hx => (List.pairwise_append.1 this).2.2 x hx y (by simp)
    simp only
    split
    · rename_i ha
      refine ⟨norm_app h hz (fun x hx => ?_), fun n s => by rw [mem_append, mem_one], z, by simp, .inr ⟨rfl, Int.le_refl _⟩⟩
      rw [es] at hx
      rcases List.mem_append.1 hx with q | q
      · exact (hd x q).trans ha (h.1 y hym)
      · simp at q; subst q; exact ha
    · rename_i ha
      have nd : Norm out.dropLast := by
        have := h
        rw [es] at this
        exact ⟨fun x hx => this.1 x (List.mem_append_left _ hx), (List.pairwise_append.1 this.2).1⟩
      have oy := h.1 y hym
      have fact : y.1 = z.1 ∧ y.2.1 ≤ z.2.1 ∧ z.2.1 ≤ y.2.2 + 1 := by unfold Ap Le at *; omega
      have mx : y.2.2 ≤ max y.2.2 z.2.2 ∧ z.2.2 ≤ max y.2.2 z.2.2 ∧ (max y.2.2 z.2.2 = y.2.2 ∨ max y.2.2 z.2.2 = z.2.2) := by omega
      refine ⟨norm_app nd (by unfold SpOk at *; simp only; omega) (fun x hx => by have := hd x hx; unfold Ap at *; simp only; omega), fun n s => ?_, (y.1, y.2.1, max y.2.2 z.2.2), by simp, by unfold Le at *; simp only; omega⟩
      have e2 : Mem out n s ↔ Mem out.dropLast n s ∨ InS y n s := by
        conv => lhs; rw [es]
        rw [mem_append, mem_one]
      have e3 : InS (y.1, y.2.1, max y.2.2 z.2.2) n s ↔ InS y n s ∨ InS z n s := by unfold InS SpOk at *; simp only; omega
      rw [mem_append, mem_one, e2, e3, or_assoc]
/-- Rising spans, pushed one by one. -/
theorem fold_norm : ∀ {zs out : List Sp}, Norm out → (∀ z ∈ zs, SpOk z) → zs.Pairwise Le → (∀ y z, out.getLast? = some y → z ∈ zs → Le y z) → Norm (zs.foldl pushP out) ∧ ∀ n s, Mem (zs.foldl pushP out) n s ↔ Mem out n s ∨ Mem zs n s
  | [], out, h, _, _, _ => ⟨h, fun n s => ⟨.inl, fun q => q.resolve_right mem_nil⟩⟩
  | z :: zs, out, h, ho, hp, hl => by
    obtain ⟨a, b, y, e, le⟩ := push_norm h (ho z (by simp)) (fun y hy => hl y z hy (by simp))
    have hp' := List.pairwise_cons.1 hp
    obtain ⟨c, d⟩ := fold_norm (zs := zs) a (fun x hx => ho x (by simp [hx])) hp'.2 (fun y' x hy' hx => by rw [e] at hy'; cases hy'; exact le.trans (hp'.1 x hx))
    rw [List.foldl_cons]
    refine ⟨c, fun n s => ?_⟩
    rw [d n s, b n s, mem_cons, or_assoc]
end
end Go.Proofs.YtcnbgdplkobenaaGreatDoor
