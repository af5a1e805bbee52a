/- Package dot: Check, compare, Less, Next; the document's Check, Less, Next. Package dot: compare, Less, Next; the document's Less, Next. Dots in slices: the kit's functions on them. Spans in slices: the functions of the kit on them. The reader of package wire: Open, and what tells without reading. The reader's number: what it tells, and what is wrong. The reader's number where no digit follows. The reader's number where digits follow. The reader's number, whatever stands there; Num, Text and Raw. The reader's piece; Raw and Text. The reader's Raw and Text, whatever stands there. Rows of events, and events handed in: what their cells are, and what their slices read as. Paths, purely: the parts of a text, which parts may be, which texts are paths. No program is named here. Rows of texts. A range over a function whose iterator hands over what it has laid itself; the body always goes on: no program here. -/
import Derived.Test.YtehmchdhlhchjaaGreatDoorZepa
import Derived.Deep.RegionHeld3
import Derived.Deep.QuietTactic
import Derived.BigQuiet
import Derived.RegionTactic
import Derived.ScopeJumps
import Derived.Lib.DecodeN
import Derived.RangeFuncNested
import Derived.RangeFuncBound
import Derived.RangeFuncCalls
import Derived.RangeFuncLeaves
import Derived.Shelf.Abstract
import Derived.Shelf.RegionOpen
import Derived.WalkKit
import Derived.OwnWalkIn
import Derived.TacticsInMore
import Derived.LoopNIn
import Derived.LoopIn
set_option linter.unusedSimpArgs false
set_option linter.unusedVariables false
set_option maxHeartbeats 32000000
namespace Go.Proofs.YtehmchdhlhchjaaGreatDoor
section
variable {P : Program} {ops : Array Oper} {Q : Exit → Act → World → Prop} {md : Region.Mode} {S : World → Prop}
theorem on1 (i : Nat) {o : Oper} {fuel : Nat} {listed : Array Bool} {a : Act} {w : World} (ho : ops[i]? = some o)
    (h : ∀ K' : Act → World → Prop, Go.RowKit.Hid (Shut (∀ a w, S w → (S w → wpAnyH P md ops Q S fuel (listed.setIfInBounds i true) a w) → K' a w)) → if Region.wanted o (yielded ops a.tmps) = true then Oper.wp P o a w K' Q else K' (a.put o.dst undef) w)
    (hr : Region.ready md ops listed = [i] := by kernel_rfl) : wpAnyH P md ops Q S (fuel + 1) listed a w := wpAnyH_ready hr (by simp) (AllReadyH.cons ho (fun K hK => h K hK) AllReadyH.nil)
end
section
open Go.RowKit

def FineD (n s : Int) : Prop := 1 ≤ n ∧ n ≤ 200 ∧ 1 ≤ s ∧ s ≤ 2147483647
instance (n s : Int) : Decidable (FineD n s) := by unfold FineD; exact inferInstance
def chkD (n s : Int) : Int := if FineD n s then 0 else 2
theorem chkD_fine {n s : Int} (h : FineD n s) : chkD n s = 0 := if_pos h
theorem chkD_odd {n s : Int} (h : ¬ FineD n s) : chkD n s = 2 := if_neg h

theorem dcheck_any (w : World) (n s : Int) : Calls Tryz.prog 149 #[.agg #[.int .i64 n, .int .i64 s]] w fun e w' => e = .returned (.int .i64 (chkD n s)) ∧ Chg [] w w' := by
 have go : ∀ v, chkD n s = v → Calls Tryz.prog 149 #[.agg #[.int .i64 n, .int .i64 s]] w (fun e w' => e = .returned (.int .i64 v) ∧ Chg [] w w') → Calls Tryz.prog 149 #[.agg #[.int .i64 n, .int .i64 s]] w fun e w' => e = .returned (.int .i64 (chkD n s)) ∧ Chg [] w w' := fun v hv h => hv ▸ h
 by_cases h : FineD n s
 ·
  refine go 0 (chkD_fine h) ?_
  clear go
  obtain ⟨h1, h2, h3, h4⟩ := h
  go_enter Tryz.func149, Tryz.ntmps149
  go_wp2; go_ret
  exact ⟨rfl, (Chg.refl _ _).alloc _⟩
 ·
  refine go 2 (chkD_odd h) ?_
  clear go
  unfold FineD at h
  by_cases h1 : n < 1
  ·
   clear h
   go_enter Tryz.func149, Tryz.ntmps149
   go_wp2; go_ret
   exact ⟨rfl, (Chg.refl _ _).alloc _⟩
  by_cases h2 : 200 < n
  ·
   clear h
   go_enter Tryz.func149, Tryz.ntmps149
   go_wp2; go_ret
   exact ⟨rfl, (Chg.refl _ _).alloc _⟩
  by_cases h3 : s < 1
  ·
   clear h
   go_enter Tryz.func149, Tryz.ntmps149
   go_wp2; go_ret
   exact ⟨rfl, (Chg.refl _ _).alloc _⟩
  ·
   have h4 : 2147483647 < s := by omega
   clear h
   go_enter Tryz.func149, Tryz.ntmps149
   go_wp2; go_ret
   exact ⟨rfl, (Chg.refl _ _).alloc _⟩
def or2 (a b : Int) : Int := if a ≠ 0 then a else b
def cmpD (a s b t : Int) : Int := or2 (cmpI a b) (cmpI s t)
theorem cmpI_lt {a b : Int} : cmpI a b < 0 ↔ a < b := by unfold cmpI; split <;> (try split) <;> omega
theorem cmpI_zero {a b : Int} : cmpI a b = 0 ↔ a = b := by unfold cmpI; split <;> (try split) <;> omega
def LtD (a s b t : Int) : Prop := a < b ∨ a = b ∧ s < t
instance (a s b t : Int) : Decidable (LtD a s b t) := by unfold LtD; exact inferInstance
theorem cmpD_lt {a s b t : Int} : cmpD a s b t < 0 ↔ LtD a s b t := by
 unfold cmpD or2 LtD
 have h1 := @cmpI_lt a b
 have h2 := @cmpI_zero a b
 have h3 := @cmpI_lt s t
 split <;> omega
theorem or2_any (w : World) (g : Nat) (a b : Int) (h : w.heap[g]? = some (.cells #[.int .i64 a, .int .i64 b] 3 (0, 0))) :
  Calls Tryz.prog 172 #[.slice (some ⟨g, 0, none⟩) 2 2] w fun e w' => e = .returned (.int .i64 (or2 a b)) ∧ w = w' := by
 unfold or2
 obtain ⟨k0, k1⟩ := ce2 h
 clear h
 by_cases ha : a = 0
 ·
  subst ha
  rw [if_neg (by simp)]
  by_cases hb : b = 0
  ·
   subst hb
   go_enter Tryz.func172, Tryz.ntmps172
   go_wp2
   refine wp_loop_rounds 3 ?_
   rw [rounds_succ]
   go_wp2
   rw [rounds_succ]
   go_wp2
   rw [rounds_succ]
   go_wp2; go_ret
   exact ⟨rfl, rfl⟩
  ·
   have hb' : (b != 0) = true := by simpa using hb
   clear hb
   go_enter Tryz.func172, Tryz.ntmps172
   go_wp2
   refine wp_loop_rounds 2 ?_
   rw [rounds_succ]
   go_wp2
   rw [rounds_succ]
   go_wp2; go_ret
   exact ⟨rfl, rfl⟩
 ·
  have ha' : (a != 0) = true := by simpa using ha
  rw [if_pos ha]
  clear ha
  go_enter Tryz.func172, Tryz.ntmps172
  go_wp2
  refine wp_loop_rounds 1 ?_
  rw [rounds_succ]
  go_wp2; go_ret
  exact ⟨rfl, rfl⟩
end
section
open Go.RowKit

theorem dcompare_any (w : World) (a s b t : Int) :
    Calls Tryz.prog 122 #[.agg #[.int .i64 a, .int .i64 s], .agg #[.int .i64 b, .int .i64 t]] w fun e w' => e = .returned (.int .i64 (cmpD a s b t)) ∧ Chg [] w w' := by
  obtain ⟨w0, hw0, c0, b0, b1⟩ := news2 w (.cells #[.int .i64 a, .int .i64 s] 35) (.cells #[.int .i64 b, .int .i64 t] 35)
  obtain ⟨k0, k1⟩ := ce2 b0
  obtain ⟨k3, k4⟩ := ce2 b1
  have g0 := lt_of_heap b0
  have g1 := lt_of_heap b1
  have W0 := h_ hw0
  have C0 := h_ c0
  clear hw0 c0 b0 b1
  unfold cmpD
  generalize hr : or2 (cmpI a b) (cmpI s t) = R
  have HR := h_ hr
  clear hr
  go_enter Tryz.func122, Tryz.ntmps122
  go_wp2
  rw [← W0.out]
  have n1 := World.new_ne w0 ⟨w.heap.size, 0, none⟩ k0
  have n2 := World.new_ne w0 ⟨w.heap.size + 1, 0, none⟩ k3
  generalize w.heap.size + 1 = s1 at *
  generalize w.heap.size = s0 at *
  go_region_held3 (fun w' => w'.cell? ⟨s0, 0, none⟩ = some (.int .i64 a) ∧ w'.cell? ⟨s0, 1, none⟩ = some (.int .i64 s) ∧ w'.cell? ⟨s1, 0, none⟩ = some (.int .i64 b) ∧ w'.cell? ⟨s1, 1, none⟩ = some (.int .i64 t)) (first | exact ⟨k0, k1, k3, k4⟩ | go_keep)
    ((first
      | (go_at_call 173; (with_reducible refine (cmpint_any _ _ _).mono ?_); rintro e w1 ⟨rfl, rfl⟩)
      | (go_at_call 172; refine (or2_any _ w0.heap.size (cmpI a b) (cmpI s t) (show (w0.alloc _).drew.heap[_]? = _ from heap_alloc_new w0 _)).mono ?_; rintro e w1 ⟨rfl, rfl⟩)))
  all_goals
    go_wp2; go_ret
    exact ⟨by first | rfl | (rw [← HR.out]; rfl), (C0.out.alloc _).drew⟩
theorem dless_any (w : World) (a s b t : Int) :
  Calls Tryz.prog 74 #[.agg #[.int .i64 a, .int .i64 s], .agg #[.int .i64 b, .int .i64 t]] w fun e w' => e = .returned (.bool (decide (LtD a s b t))) ∧ Chg [] w w' := by
 have h : decide (cmpD a s b t < 0) = decide (LtD a s b t) := decide_eq_decide.2 cmpD_lt
 generalize decide (LtD a s b t) = B at *
 go_enter Tryz.func74, Tryz.ntmps74
 go_wp2_with fail
 refine (dcompare_any _ _ _ _ _).mono ?_
 rintro e w1 ⟨rfl, c1⟩
 have C1 := h_ ((((Chg.refl [] w).alloc _).alloc _).trans c1)
 clear c1; go_wp2; go_ret
 exact ⟨rfl, C1.out⟩
theorem hless_any (w : World) (a s b t : Int) :
  Calls Tryz.prog 40 #[.agg #[.int .i64 a, .int .i64 s], .agg #[.int .i64 b, .int .i64 t]] w fun e w' => e = .returned (.bool (decide (LtD a s b t))) ∧ Chg [] w w' := by
 have go : ∀ v, decide (LtD a s b t) = v → Calls Tryz.prog 40 #[.agg #[.int .i64 a, .int .i64 s], .agg #[.int .i64 b, .int .i64 t]] w (fun e w' => e = .returned (.bool v) ∧ Chg [] w w') → Calls Tryz.prog 40 #[.agg #[.int .i64 a, .int .i64 s], .agg #[.int .i64 b, .int .i64 t]] w fun e w' => e = .returned (.bool (decide (LtD a s b t))) ∧ Chg [] w w' := fun v hv h => hv ▸ h
 by_cases h1 : a < b
 ·
  refine go true (decide_eq_true (.inl h1)) ?_
  clear go
  go_enter Tryz.func40, Tryz.ntmps40
  go_wp2; go_ret
  exact ⟨rfl, ((Chg.refl _ _).alloc _).alloc _⟩
 by_cases h2 : a = b
 ·
  subst h2
  by_cases h3 : s < t
  ·
   refine go true (decide_eq_true (.inr ⟨rfl, h3⟩)) ?_
   clear go
   go_enter Tryz.func40, Tryz.ntmps40
   go_wp2; go_ret
   exact ⟨rfl, ((Chg.refl _ _).alloc _).alloc _⟩
  ·
   refine go false (decide_eq_false (by unfold LtD; omega)) ?_
   clear go
   go_enter Tryz.func40, Tryz.ntmps40
   go_wp2; go_ret
   exact ⟨rfl, ((Chg.refl _ _).alloc _).alloc _⟩
 ·
  refine go false (decide_eq_false (by unfold LtD; omega)) ?_
  clear go
  have h4 : (a == b) = false := by simpa using h2
  have h5 : ¬ a < b := h1
  go_enter Tryz.func40, Tryz.ntmps40
  go_wp2; go_ret
  exact ⟨rfl, ((Chg.refl _ _).alloc _).alloc _⟩
end
section
open Go.RowKit


def dotTy : RowTy (Int × Int) where
 enc := fun x => [.int .i64 x.1, .int .i64 x.2]
 k := 2
 T := 35
 TS := 26
 z := (0, 0)
 zv := .agg #[.int .i64 0, .int .i64 0]
 bytes := 16
 klen := fun _ => rfl
 one := by intro x v hv; simp at hv; rcases hv with rfl | rfl <;> rfl
 zc := rfl
 kpos := by decide
 bpos := by decide
 under := by kernel_rfl
 info := by kernel_rfl
theorem dotCells {w : World} {g o n j : Nat} {xs : List (Int × Int)} (h : RdK dotTy w (some ⟨g, o, none⟩) n xs) {x : Int × Int} (hx : xs[j]? = some x) : w.cell? ⟨g, o + j * 2, none⟩ = some (.int .i64 x.1) ∧ w.cell? ⟨g, o + j * 2 + 1, none⟩ = some (.int .i64 x.2) :=
 ⟨h.at_ j 0 x _ hx rfl, h.at_ j 1 x _ hx rfl⟩
set_option maxRecDepth 100000 in
theorem copydot_any (w : World) (A : Option Addr) (n c : Nat) (xs : List (Int × Int)) (h : RdK dotTy w A n xs) (hn : n * 400 ≤ 140737488355327) :
  Calls Tryz.prog 14 #[.slice A n c] w fun e w' => ∃ A' c', e = .returned (.slice A' n c') ∧ OwnK dotTy w' A' c' xs ∧ (∀ a, A' = some a → w.heap.size ≤ a.block) ∧ Chg [] w w' := by
 obtain ⟨w1, hw1, c1, b1⟩ := news1 w (.cells #[] 35)
 have W1 := h_ hw1
 have HA := h_ (h.chg c1 (by simp))
 have HO : Hid (OwnK dotTy w1 (some ⟨w.heap.size, 0, none⟩) 0 []) := h_ (.of (full := []) b1 (Nat.le_refl _) (Nat.zero_le _) rfl rfl)
 have C1 := h_ c1

 have HN : Hid ((0 + n) * 400 ≤ 140737488355327) := h_ (by rw [Nat.zero_add]; exact hn)
 clear hw1 c1 b1 h hn
 go_enter Tryz.func14, Tryz.ntmps14
 go_wp2_with (at_builtin; rw [← W1.out]; refine wpList_appK rfl _ _ rfl rfl HO.out rfl rfl HA.out HN.out ?_; intro A2 c2 w2 u2 d2 e2)
 go_ret
 rw [Nat.zero_add] at *
 have hA2 : ∀ a, A2 = some a → w.heap.size ≤ a.block := by
  rintro a rfl
  rcases e2 with h | h
  ·
   cases h; exact Nat.le_refl _
  ·
   cases h; exact C1.out.size
 exact ⟨A2, c2, by simp, by simpa using u2, hA2, C1.out.grown d2 (fun k hk => by simp at hk; subst hk; exact .inr (Nat.le_refl _))⟩
end
section
open Go.RowKit


def spanTy : RowTy (Int × Int × Int) where
 enc := fun x => [.int .i64 x.1, .int .i64 x.2.1, .int .i64 x.2.2]
 k := 3
 T := 81
 TS := 23
 z := (0, 0, 0)
 zv := .agg #[.int .i64 0, .int .i64 0, .int .i64 0]
 bytes := 24
 klen := fun _ => rfl
 one := by intro x v hv; simp at hv; rcases hv with rfl | rfl | rfl <;> rfl
 zc := rfl
 kpos := by decide
 bpos := by decide
 under := by kernel_rfl
 info := by kernel_rfl
theorem spanCells {w : World} {g o n j : Nat} {xs : List (Int × Int × Int)} (h : RdK spanTy w (some ⟨g, o, none⟩) n xs) {x : Int × Int × Int} (hx : xs[j]? = some x) : w.cell? ⟨g, o + j * 3, none⟩ = some (.int .i64 x.1) ∧ w.cell? ⟨g, o + j * 3 + 1, none⟩ = some (.int .i64 x.2.1) ∧ w.cell? ⟨g, o + j * 3 + 2, none⟩ = some (.int .i64 x.2.2) :=
 ⟨h.at_ j 0 x _ hx rfl, h.at_ j 1 x _ hx rfl, h.at_ j 2 x _ hx rfl⟩
theorem samespan_any (w : World) (A B : Option Addr) (n m c d : Nat) (xs ys : List (Int × Int × Int)) (h : RdK spanTy w A n xs) (h' : RdK spanTy w B m ys) (hn : n ≤ 140737488351232) (hm : m ≤ 140737488351232) :
  Calls Tryz.prog 47 #[.slice A n c, .slice B m d] w fun e w' => e = .returned (.bool (xs == ys)) ∧ Chg [] w w' := by
 have hl := h.len
 have hl2 := h'.len
 subst hl hl2
 by_cases hne : xs.length = ys.length
 ·
  have hb : ((xs.length : Int) == (ys.length : Int)) = true := by simp; omega
  have HN := h_ hne
  have HA := h_ h
  have HB := h_ h'
  clear hne h h'
  go_enter Tryz.func47, Tryz.ntmps47
  go_wp2
  go_loopw [5] (fun i wr => ∃ k : Nat, k ≤ xs.length ∧ i = .int .i64 k ∧ Hid (xs.take k = ys.take k ∧ Chg [] w wr)) (fun i _ => xs.length - (RowKit.intOf i).toNat)
  case atStart => exact ⟨0, Nat.zero_le _, rfl, rfl, Chg.refl _ _⟩
  case round =>
   obtain ⟨k, hk, rfl, HI⟩ := hrel
   by_cases hlt : k < xs.length
   ·
    have hlt2 : k < ys.length := by have := HN.out; omega
    obtain ⟨g, o, eA, _⟩ := HA.out.line (by omega)
    obtain ⟨g2, o2, eB, _⟩ := HB.out.line (by omega)
    subst eA eB
    have ex := List.getElem?_eq_getElem hlt
    have ey := List.getElem?_eq_getElem hlt2
    obtain ⟨p0, p1, p2⟩ := spanCells (HA.out.chg HI.out.2 (by simp)) ex
    obtain ⟨q0, q1, q2⟩ := spanCells (HB.out.chg HI.out.2 (by simp)) ey
    generalize hx : xs[k] = x at *
    generalize hy : ys[k] = y at *
    have i0 : (0 : Int) ≤ (k : Int) := by omega
    have i1 : (k : Int) < (xs.length : Int) := by omega
    have i2 : (k : Int) < (ys.length : Int) := by omega
    have HX := h_ (And.intro ex ey)
    clear ex ey hx hy
    refine (Decidable.em (x = y)).elim (fun hxy => ?EQ) (fun hxy => ?NE)
    case EQ =>
     subst hxy; go_wp2
     go_quiet (fail)
     go_wp2
     refine ⟨⟨k + 1, by omega, by simp, ?_, HI.out.2.drewN _⟩, by simp [RowKit.intOf]; omega⟩
     rw [List.take_add_one, List.take_add_one, HI.out.1, HX.out.1, HX.out.2]
    case NE =>
     have hf : (xs == ys) = false := by
      rw [beq_eq_false_iff_ne]
      intro e
      apply hxy
      have h1 := HX.out.1
      rw [e, HX.out.2] at h1
      exact (Option.some.inj h1).symm
     have HF := h_ hf
     clear hf
     by_cases h0 : x.1 = y.1
     ·
      skip
      by_cases h1 : x.2.1 = y.2.1
      ·
       skip
       have h2 : ¬ x.2.2 = y.2.2 := fun h => hxy (by exact Prod.ext h0 (Prod.ext h1 h))
       clear hxy; go_wp2
       go_quiet (fail)
       go_wp2; go_ret
       exact ⟨by rw [HF.out]; rfl, HI.out.2.drewN _⟩
      ·
       clear hxy; go_wp2
       go_quiet (fail)
       go_wp2; go_ret
       exact ⟨by rw [HF.out]; rfl, HI.out.2.drewN _⟩
     ·
      clear hxy; go_wp2
      go_quiet (fail)
      go_wp2; go_ret
      exact ⟨by rw [HF.out]; rfl, HI.out.2.drewN _⟩
   ·
    obtain rfl : k = xs.length := by omega
    have ht : (xs == ys) = true := by
     have := HI.out.1
     rw [List.take_of_length_le (Nat.le_refl _), List.take_of_length_le (by have := HN.out; omega)] at this
     simpa using this
    have HF := h_ ht
    clear ht; go_wp2; go_ret
    exact ⟨by rw [HF.out]; rfl, HI.out.2⟩
 ·
  have hb : ((xs.length : Int) == (ys.length : Int)) = false := by simp; omega
  have hf : (xs == ys) = false := by
   rw [beq_eq_false_iff_ne]
   intro e
   exact hne (by rw [e])
  rw [hf]
  clear hne h h' hf
  go_enter Tryz.func47, Tryz.ntmps47
  go_wp2; go_ret
  exact ⟨rfl, Chg.refl _ _⟩
set_option maxRecDepth 100000 in
theorem copyspan_any (w : World) (A : Option Addr) (n c : Nat) (xs : List (Int × Int × Int)) (h : RdK spanTy w A n xs) (hn : n * 400 ≤ 140737488355327) :
  Calls Tryz.prog 8 #[.slice A n c] w fun e w' => ∃ A' c', e = .returned (.slice A' n c') ∧ OwnK spanTy w' A' c' xs ∧ (∀ a, A' = some a → w.heap.size ≤ a.block) ∧ Chg [] w w' := by
 obtain ⟨w1, hw1, c1, b1⟩ := news1 w (.cells #[] 81)
 have W1 := h_ hw1
 have HA := h_ (h.chg c1 (by simp))
 have HO : Hid (OwnK spanTy w1 (some ⟨w.heap.size, 0, none⟩) 0 []) := h_ (.of (full := []) b1 (Nat.le_refl _) (Nat.zero_le _) rfl rfl)
 have C1 := h_ c1

 have HN : Hid ((0 + n) * 400 ≤ 140737488355327) := h_ (by rw [Nat.zero_add]; exact hn)
 clear hw1 c1 b1 h hn
 go_enter Tryz.func8, Tryz.ntmps8
 go_wp2_with (at_builtin; rw [← W1.out]; refine wpList_appK rfl _ _ rfl rfl HO.out rfl rfl HA.out HN.out ?_; intro A2 c2 w2 u2 d2 e2)
 go_ret
 rw [Nat.zero_add] at *
 have hA2 : ∀ a, A2 = some a → w.heap.size ≤ a.block := by
  rintro a rfl
  rcases e2 with h | h
  ·
   cases h; exact Nat.le_refl _
  ·
   cases h; exact C1.out.size
 exact ⟨A2, c2, by simp, by simpa using u2, hA2, C1.out.grown d2 (fun k hk => by simp at hk; subst hk; exact .inr (Nat.le_refl _))⟩
theorem spanSet (full : List (Int × Int × Int)) (j : Nat) (x : Int × Int × Int) (hj : j < full.length) : ((((spanTy.flat full).toArray.setIfInBounds (j * 3) (.int .i64 x.1)).setIfInBounds (j * 3 + 1) (.int .i64 x.2.1)).setIfInBounds (j * 3 + 2) (.int .i64 x.2.2)) = (spanTy.flat (full.set j x)).toArray := by
 apply Array.toList_inj.1
 refine (spanTy.flat_ext _ (full.set j x) ?_ ?_)
 ·
  simp [RowTy.flat_len]
 ·
  intro q i y hy hi
  have hk : spanTy.k = 3 := rfl
  rw [hk] at hi ⊢
  have hlen : (spanTy.flat full).length = full.length * 3 := spanTy.flat_len full
  simp only [Array.toList_setIfInBounds, List.getElem?_set, List.length_set]
  rw [List.getElem?_set] at hy
  by_cases hq : j = q
  ·
   subst hq
   rw [if_pos rfl, if_pos hj] at hy
   cases hy
   rcases (show i = 0 ∨ i = 1 ∨ i = 2 by omega) with rfl | rfl | rfl
   ·
    rw [if_neg (by omega)]; rw [if_neg (by omega)]; rw [if_pos (by omega), if_pos (by simp [hlen]; omega)]; rfl
   ·
    rw [if_neg (by omega)]; rw [if_pos (by omega), if_pos (by simp [hlen]; omega)]; rfl
   ·
    rw [if_pos (by omega), if_pos (by simp [hlen]; omega)]; rfl
  ·
   rw [if_neg hq] at hy
   have hql := (List.getElem?_eq_some_iff.1 hy).1
   rw [if_neg (by omega), if_neg (by omega), if_neg (by omega)]
   have e := spanTy.flat_at full q i y hy (by rw [hk]; exact hi)
   rw [hk] at e
   simpa using e
theorem spanPut (w : World) (g j : Nat) (full : List (Int × Int × Int)) (x : Int × Int × Int) (h : w.heap[g]? = some (.cells (spanTy.flat full).toArray 81 (0, 0))) (hj : j < full.length) : (((w.setCell ⟨g, j * 3, none⟩ (.int .i64 x.1)).setCell ⟨g, j * 3 + 1, none⟩ (.int .i64 x.2.1)).setCell ⟨g, j * 3 + 2, none⟩ (.int .i64 x.2.2)).heap[g]? = some (.cells (spanTy.flat (full.set j x)).toArray 81 (0, 0)) := by
 have h0 := heap_setCell_same _ g (j * 3) _ _ (.int .i64 x.1) h
 have h1 := heap_setCell_same _ g (j * 3 + 1) _ _ (.int .i64 x.2.1) h0
 have h2 := heap_setCell_same _ g (j * 3 + 2) _ _ (.int .i64 x.2.2) h1
 rw [spanSet full j x hj] at h2
 exact h2
theorem overspan_row (w : World) (g n c : Nat) (full : List (Int × Int × Int)) (hg : w.heap[g]? = some (.cells (spanTy.flat full).toArray 81 (0, 0))) (hl : full.length = c) (hn : n ≤ c) (hc : c ≤ 9223372036854775807) :
  Calls Tryz.prog 42 #[.slice (some ⟨g, 0, none⟩) n c] w fun e w' => e = .returned (.tuple #[]) ∧ Chg [g] w w' := by
 have HG := h_ hg
 clear hg
 have i1 : (0 : Int) ≤ (c : Int) := by omega
 have hcc : (n : Int) ≤ (c : Int) := by omega
 go_enter Tryz.func42, Tryz.ntmps42
 go_wp2
 go_loopw [3] (fun i wr => ∃ (k : Nat) (cur : List (Int × Int × Int)), k ≤ c ∧ i = .int .i64 k ∧ Hid (cur.length = c ∧ wr.heap[g]? = some (.cells (spanTy.flat cur).toArray 81 (0, 0)) ∧ Chg [g] w wr)) (fun i _ => c - (RowKit.intOf i).toNat)
 case atStart => exact ⟨0, full, Nat.zero_le _, rfl, hl, HG.out, Chg.refl _ _⟩
 case round =>
  obtain ⟨k, cur, hk, rfl, HI⟩ := hrel
  by_cases hlt : k < c
  ·
   have hcl : k < cur.length := by have := HI.out.1; omega
   have hrd : RdK spanTy wr (some ⟨g, 0, none⟩) cur.length cur := (OwnK.of (c := cur.length) (xs := cur) HI.out.2.1 (Nat.le_refl _) (by have := HI.out.1; unfold maxLen; omega) rfl (List.take_length)).reads
   have ex := List.getElem?_eq_getElem hcl
   obtain ⟨p0, p1, p2⟩ := spanCells hrd ex
   simp only [Nat.zero_add] at p0 p1 p2
   have f0 := free_of HI.out.2.1 (k * 3)
   have f1 := free_of HI.out.2.1 (k * 3 + 1)
   have f2 := free_of HI.out.2.1 (k * 3 + 2)
   have i2 : (0 : Int) ≤ (k : Int) := by omega
   have i3 : (k : Int) < (c : Int) := by omega
   have hput := spanPut wr g k cur (-7, 7, -7) HI.out.2.1 hcl
   have hch := HI.out.2.2.trans ((((Chg.refl [g] wr).setCell (p := ⟨g, k * 3, none⟩) (.inl (by simp)) (.int .i64 (-7))).setCell (p := ⟨g, k * 3 + 1, none⟩) (.inl (by simp)) (.int .i64 (7))).setCell (p := ⟨g, k * 3 + 2, none⟩) (.inl (by simp)) (.int .i64 (-7)))
   have HP := h_ (And.intro hput hch)
   clear hput hch hrd ex; go_wp2
   refine ⟨⟨k + 1, cur.set k (-7, 7, -7), by omega, by simp, by rw [List.length_set]; exact HI.out.1, HP.out.1, HP.out.2⟩, by simp [RowKit.intOf]; omega⟩
  ·
   obtain rfl : k = c := by omega
   go_wp2
   go_end0
   exact ⟨rfl, HI.out.2.2⟩
theorem overspan_own (w : World) (A : Option Addr) (n c : Nat) (xs : List (Int × Int × Int)) (h : OwnK spanTy w A c xs) (hn : n = xs.length) :
  Calls Tryz.prog 42 #[.slice A n c] w fun e w' => e = .returned (.tuple #[]) ∧ ∀ S : List Nat, (∀ a, A = some a → a.block ∈ S) → Chg S w w' := by
 subst hn
 rcases h with ⟨rfl, rfl, rfl⟩ | ⟨g, full, rfl, hg, hl, hm, hn, _⟩
 ·
  go_enter Tryz.func42, Tryz.ntmps42
  go_wp2
  refine wp_loop_rounds 1 ?_
  rw [rounds_succ]
  go_wp2
  go_end0
  exact ⟨rfl, fun S _ => Chg.refl _ _⟩
 ·
  unfold maxLen at hm
  exact (overspan_row w g _ c full hg hl hn (by omega)).mono fun e w' ⟨h1, h2⟩ => ⟨h1, fun S hS => h2.mono (fun i hi => by simp at hi; subst hi; exact .inl (hS _ rfl))⟩
end
section
open Go.RowKit Go.Lib

structure EvT where
 n : Int
 s : Int
 p : ByteArray
 k : Int
 m : Int
 A : Option Addr
 l : Nat
 c : Nat
 B : Option Addr
 bl : Nat
 bc : Nat
def evTy : RowTy EvT where
 enc := fun x => [.int .i64 x.n, .int .i64 x.s, .string x.p, .int .i64 x.k, .int .i64 x.m, .slice x.A x.l x.c, .slice x.B x.bl x.bc]
 k := 7
 T := 40
 TS := 22
 z := ⟨0, 0, ⟨#[]⟩, 0, 0, none, 0, 0, none, 0, 0⟩
 zv := .agg #[.int .i64 0, .int .i64 0, .string ⟨#[]⟩, .int .i64 0, .int .i64 0, .slice none 0 0, .slice none 0 0]
 bytes := 96
 klen := fun _ => rfl
 one := by intro x v hv; simp at hv; rcases hv with rfl | rfl | rfl | rfl | rfl | rfl | rfl <;> rfl
 zc := rfl
 kpos := by decide
 bpos := by decide
 under := by kernel_rfl
 info := by kernel_rfl
structure EvP where
 n : Int
 s : Int
 p : List UInt8
 k : Int
 m : Int
 b : List UInt8
 q : List (Int × Int × Int)
structure EvR (w : World) (x : EvT) (e : EvP) : Prop where
 n : x.n = e.n
 s : x.s = e.s
 p : x.p = strOf e.p
 k : x.k = e.k
 m : x.m = e.m
 l : x.l = e.b.length
 bl : x.bl = e.q.length
 A : Bs w x.A x.l e.b
 B : RdK spanTy w x.B x.bl e.q
theorem EvR.chg {w w' : World} {x : EvT} {e : EvP} (h : EvR w x e) (hc : Chg [] w w') : EvR w' x e := ⟨h.n, h.s, h.p, h.k, h.m, h.l, h.bl, h.A.chg hc (by simp), h.B.chg hc (by simp)⟩
theorem evCells {w : World} {g o n j : Nat} {xs : List EvT} (h : RdK evTy w (some ⟨g, o, none⟩) n xs) {x : EvT} (hx : xs[j]? = some x) : w.cell? ⟨g, o + j * 7, none⟩ = some (.int .i64 x.n) ∧ w.cell? ⟨g, o + j * 7 + 1, none⟩ = some (.int .i64 x.s) ∧ w.cell? ⟨g, o + j * 7 + 2, none⟩ = some (.string x.p) ∧ w.cell? ⟨g, o + j * 7 + 3, none⟩ = some (.int .i64 x.k) ∧ w.cell? ⟨g, o + j * 7 + 4, none⟩ = some (.int .i64 x.m) ∧ w.cell? ⟨g, o + j * 7 + 5, none⟩ = some (.slice x.A x.l x.c) ∧ w.cell? ⟨g, o + j * 7 + 6, none⟩ = some (.slice x.B x.bl x.bc) :=
 ⟨h.at_ j 0 x _ hx rfl, h.at_ j 1 x _ hx rfl, h.at_ j 2 x _ hx rfl, h.at_ j 3 x _ hx rfl, h.at_ j 4 x _ hx rfl, h.at_ j 5 x _ hx rfl, h.at_ j 6 x _ hx rfl⟩
end
section
open Go.RowKit

def cutA : List UInt8 → List UInt8 → List (List UInt8)
 | acc, [] => [acc]
 | acc, b :: l => if b = 47 then acc :: cutA [] l else cutA (acc ++ [b]) l
def cutL (l : List UInt8) : List (List UInt8) := cutA [] l
theorem cutA_ne : ∀ acc l, cutA acc l ≠ []
 | acc, [] => by simp [cutA]
 | acc, b :: l => by
  unfold cutA
  split
  ·
   simp
  ·
   exact cutA_ne _ l
theorem cutA_no : ∀ (l acc : List UInt8), 47 ∉ l → cutA acc l = [acc ++ l]
 | [], acc, _ => by simp [cutA]
 | b :: l, acc, h => by
  simp only [List.mem_cons, not_or] at h
  rw [cutA, if_neg (fun e => h.1 e.symm), cutA_no l _ h.2, List.append_assoc]
  rfl
theorem cutA_at : ∀ (a acc b : List UInt8), 47 ∉ a → cutA acc (a ++ 47 :: b) = (acc ++ a) :: cutA [] b
 | [], acc, b, _ => by simp [cutA]
 | x :: a, acc, b, h => by
  simp only [List.mem_cons, not_or] at h
  rw [List.cons_append, cutA, if_neg (fun e => h.1 e.symm), cutA_at a _ b h.2, List.append_assoc]
  rfl
theorem cutA_len (l : List UInt8) : ∀ acc, (cutA acc l).length ≤ l.length + 1 := by
 induction l with
 | nil => intro acc; simp [cutA]
 | cons b l ih =>
  intro acc
  unfold cutA
  split
  ·
   have := ih []; simp; omega
  ·
   have := ih (acc ++ [b]); simp; omega

def okB (b : UInt8) : Bool := (97 ≤ b.toNat && b.toNat ≤ 122) || (48 ≤ b.toNat && b.toNat ≤ 57) || b == 46 || b == 95 || b == 45
def partL (most : Nat) (p : List UInt8) : Bool := p.all okB && decide (1 ≤ p.length) && decide (p.length ≤ most) && p != [46] && p != [46, 46]
def checkL (parts most : Nat) (l : List UInt8) : Bool := decide ((cutL l).length ≤ parts) && (cutL l).all (partL most)
def foreignR (c : Nat) : Bool := !((97 ≤ c && c ≤ 122) || (48 ≤ c && c ≤ 57) || c == 46 || c == 95 || c == 45)
theorem foreign_byte (b : UInt8) : foreignR b.toNat = !okB b := by
 have e : ∀ k : UInt8, (b.toNat == k.toNat) = (b == k) := fun k => by
  rw [Bool.eq_iff_iff, beq_iff_eq, beq_iff_eq]
  exact ⟨fun h => UInt8.toNat_inj.1 h, fun h => by rw [h]⟩
 unfold foreignR okB
 have e1 := e 46
 have e2 := e 95
 have e3 := e 45
 simp only [show (46 : UInt8).toNat = 46 from rfl, show (95 : UInt8).toNat = 95 from rfl, show (45 : UInt8).toNat = 45 from rfl] at e1 e2 e3
 rw [e1, e2, e3]
theorem foreign_ge {c : Nat} (h : 128 ≤ c) : foreignR c = true := by
 simp [foreignR]
 omega
theorem decodeN_ge (n b0 b1 b2 b3 : Nat) (h : 128 ≤ b0) : 128 ≤ (Lib.decodeN n b0 b1 b2 b3).1 := by
 unfold Lib.decodeN
 repeat' split
 all_goals first | omega | (simp only; omega)
theorem get_at (s : ByteArray) (i : Nat) (b : UInt8) (h : s.data.toList[i]? = some b) : s.get! i = b := by
 have hi : i < s.data.size := by
  have := (List.getElem?_eq_some_iff.1 h).1
  simpa using this
 have : s.data[i]? = some b := by rwa [Array.getElem?_toList] at h
 show s.data[i]! = b
 rw [getElem!_pos s.data i hi]
 exact (Array.getElem?_eq_some_iff.1 this).2
theorem foreign_at (s : ByteArray) (i : Nat) (b : UInt8) (h : s.data.toList[i]? = some b) : foreignR (Utf8.decode s i).1 = !okB b ∧ (okB b = true → (Utf8.decode s i).2 = 1) := by
 rw [Lib.decode_at, get_at s i b h]
 by_cases hb : b.toNat < 128
 ·
  have e : ∀ n x y z, Lib.decodeN n b.toNat x y z = (b.toNat, 1) := fun n x y z => by unfold Lib.decodeN; rw [if_pos hb]
  rw [e]
  exact ⟨foreign_byte b, fun _ => rfl⟩
 ·
  have hb : 128 ≤ b.toNat := by omega
  have ho : okB b = false := by
   have := foreign_byte b
   rw [foreign_ge hb] at this
   simpa using this.symm
  rw [ho]
  exact ⟨foreign_ge (decodeN_ge _ _ _ _ _ hb), fun h => by cases h⟩
end
section
open Go.RowKit
def textTy : RowTy (List UInt8) where
 enc := fun x => [.string (strOf x)]
 k := 1
 T := 9
 TS := 108
 z := []
 zv := .string ⟨#[]⟩
 bytes := 16
 klen := fun _ => rfl
 one := by intro x v hv; simp at hv; rcases hv with rfl <;> rfl
 zc := rfl
 kpos := by decide
 bpos := by decide
 under := by kernel_rfl
 info := by kernel_rfl
theorem textCells {w : World} {g o n j : Nat} {xs : List (List UInt8)} (h : RdK textTy w (some ⟨g, o, none⟩) n xs) {x : List UInt8} (hx : xs[j]? = some x) : w.cell? ⟨g, o + j, none⟩ = some (.string (strOf x)) := by
 have := h.at_ j 0 x _ hx rfl
 rwa [show textTy.k = 1 from rfl, Nat.mul_one, Nat.add_zero] at this
theorem strOf_of (s : ByteArray) : strOf s.data.toList = s := by
 unfold strOf
 rw [Array.toArray_toList]
theorem strOf_inj {a b : List UInt8} (h : strOf a = strOf b) : a = b := by
 have := congrArg (fun s : ByteArray => s.data.toList) h
 simpa [strOf] using this
theorem strOf_ext (l : List UInt8) (a b : Nat) : (strOf l).extract a b = strOf ((l.drop a).take (b - a)) := by
 apply ByteArray.ext
 apply Array.toList_inj.1
 rw [show ((strOf l).extract a b).data = (strOf l).data.extract a b from ByteArray.data_extract]
 simp [strOf, List.extract_eq_take_drop]
end
end Go.Proofs.YtehmchdhlhchjaaGreatDoor
