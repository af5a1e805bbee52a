/- The writer's Raw, Text and Out. bytes.Clone, the kit's copy, and the writer's Out; the writer's calls whatever came ahead. The kit's functions on bytes: same, lent, kept, written over. cmp.Compare at int, bytes.Compare, cmp.Or at three ints. Package dot: Check, compare, Less, Next; the document's Check, Less, Next. Package dot: compare, Less, Next; the document's Less, Next. Dots in slices: the kit's functions on them. Spans in slices: the functions of the kit on them. past.stands, past.apart. past.Check. The pasts that may be, as lists of spans in order. No memory here. past.Has: how a span lies to a dot. past.Has: a dot is looked for. past.Has. past: Count, Last. The document's Check of a past. The document's Has, Count, Last. The document's ahead. The document's Check of a dot, as the past sees it. What is joined, and left: plain functions. No function of the program is named here. past.bounded, past.alone. past.push. past.push behind a span. A row of structs: one cell of one of them is stored. No program here. past.push onto the last span. The document's tidy. The document's without. Sets of dots as lists of spans: how many dots they have, what is the last one, what is joined, left, within. Plain. What is joined of spans in order: purely. The reader of package wire: Open, and what tells without reading. The reader's number: what it tells, and what is wrong. The reader's number where no digit follows. The reader's number where digits follow. The reader's number, whatever stands there; Num, Text and Raw. The reader's piece; Raw and Text. The reader's Raw and Text, whatever stands there. Rows of events, and events handed in: what their cells are, and what their slices read as. Paths, purely: the parts of a text, which parts may be, which texts are paths. No program is named here. Rows of texts. A range over a function whose iterator hands over what it has laid itself; the body always goes on: no program here. -/
import Derived.Test.YtgbidlhgmeglmaaGreatDoorZeoa
import Derived.Lib.BytesEntry
import Derived.Deep.RegionHeld3
import Derived.Deep.QuietTactic
import Derived.BigQuiet
import Derived.RegionTactic
import Derived.Deep.Cut
import Derived.ScopeJumps
import Derived.Lib.DecodeN
import Derived.RangeFuncNested
import Derived.RangeFuncBound
import Derived.RangeFuncCalls
import Derived.RangeFuncLeaves
import Derived.Shelf.Abstract
import Derived.Shelf.RegionOpen
import Derived.WalkKit
import Derived.OwnWalkIn
import Derived.TacticsInMore
import Derived.LoopNIn
import Derived.LoopIn
namespace Go.Proofs.YtgbidlhgmeglmaaGreatDoor
section
section
open Go.RowKit
end
section
open Go.RowKit

/-- Bytes in memory of their own, which was not there at first. -/
def Fresh (w w' : World) (A : Option Addr) (c : Nat) (ys : List UInt8) : Prop := OwnB w' A c ys ∧ (∀ a, A = some a → w.heap.size ≤ a.block) ∧ Chg [] w w'

theorem OwnB.empty (w : World) : OwnB (w.alloc (.cells #[] 5)) (some ⟨w.heap.size, 0, none⟩) 0 [] := .of (full := []) (heap_alloc_new w _) (by simp) (by simp [maxLen]) rfl (by simp)

theorem fresh_app {w w1 : World} {A' : Option Addr} {c' : Nat} {ys : List UInt8} (own1 : OwnB w1 A' c' ([] ++ ys)) (hg1 : (w.alloc (.cells #[] 5)).grownBy w1 (Option.map (·.block) (some (⟨w.heap.size, 0, none⟩ : Addr))))
    (hA1 : A' = some ⟨w.heap.size, 0, none⟩ ∨ A' = some ⟨(w.alloc (.cells #[] 5)).heap.size, 0, none⟩) : Fresh w w1 A' c' ys := by
  refine ⟨own1, ?_, ((Chg.refl [] w).alloc _).grown hg1 (by simp)⟩
  rintro a rfl
  rcases hA1 with h | h <;> cases h <;> simp

set_option maxHeartbeats 400000 in
theorem copy_any (w : World) (B : Option Addr) (m d : Nat) (ys : List UInt8) (hr : Bs w B m ys) (hm : m ≤ 140737488351232) :
    Calls Tryz.prog 74 #[.slice B m d] w fun r w' => ∃ A c, r = .returned (.slice A m c) ∧ Fresh w w' A c ys := by
  go_enter Tryz.func74, Tryz.ntmps74
  go_wp2_with (at_builtin; refine wpList_app rfl _ _ rfl rfl (OwnB.empty w) rfl rfl (hr.chg ((Chg.refl [] w).alloc _) (by simp)) (by simp; omega) ?_; intro A' c' w1 own1 hg1 hA1)
  go_ret
  exact ⟨A', c', by simp, fresh_app own1 hg1 hA1⟩
end
section
open Go.RowKit

/-- The marks that stand behind what is lent. -/
def marks : List UInt8 := [201, 17, 99]
/-- What is lent: bytes at the head of row g, marks behind them. -/
def Lent (w : World) (g : Nat) (xs : List UInt8) : Prop := ∃ full : List UInt8, w.heap[g]? = some (.cells (full.map bv).toArray 5 (0, 0)) ∧ full.take (xs.length + 3) = xs ++ marks

theorem Bs.three (w : World) : Bs (w.alloc (.cells #[.int .u8 201, .int .u8 17, .int .u8 99] 5)) (some ⟨w.heap.size, 0, none⟩) 3 marks := by
  refine ⟨rfl, fun j u hj => ⟨_, rfl, ?_⟩⟩
  have hl := (List.getElem?_eq_some_iff.1 hj).1
  rw [add_zero_lit, cell_of (heap_alloc_new w (.cells #[.int .u8 201, .int .u8 17, .int .u8 99] 5)) j]
  match j, hj, hl with
  | 0, hj, _ => cases hj; rfl
  | 1, hj, _ => cases hj; rfl
  | 2, hj, _ => cases hj; rfl

theorem OwnB.lent {w : World} {A : Option Addr} {c : Nat} {xs : List UInt8} (h : OwnB w A c (xs ++ marks)) : ∃ g, A = some ⟨g, 0, none⟩ ∧ Lent w g xs := by
  rcases h with ⟨_, h, _⟩ | ⟨g, full, rfl, h1, _, _, _, h5⟩
  · simp [marks] at h
  · exact ⟨g, rfl, full, h1, by rw [← h5]; simp [marks]⟩

theorem Lent.reads {w : World} {g : Nat} {xs : List UInt8} (h : Lent w g xs) : Bs w (some ⟨g, 0, none⟩) xs.length xs := by
  obtain ⟨full, h1, h2⟩ := h
  refine ⟨rfl, fun j u hj => ⟨_, rfl, ?_⟩⟩
  have hl := (List.getElem?_eq_some_iff.1 hj).1
  rw [add_zero_lit, cell_of h1 j]
  have e : full[j]? = some u := by
    have := congrArg (fun l => l[j]?) h2
    simp only [List.getElem?_take, List.getElem?_append] at this
    rw [if_pos (by omega), if_pos hl, hj] at this
    exact this
  simp [e]
theorem Lent.marks {w : World} {g : Nat} {xs : List UInt8} (h : Lent w g xs) : Bs w (some ⟨g, xs.length, none⟩) 3 marks := by
  obtain ⟨full, h1, h2⟩ := h
  refine ⟨rfl, fun j u hj => ⟨_, rfl, ?_⟩⟩
  have hl : j < 3 := (List.getElem?_eq_some_iff.1 hj).1
  rw [add_lit, cell_of h1]
  have e : full[xs.length + j]? = some u := by
    have := congrArg (fun l => l[xs.length + j]?) h2
    simp only [List.getElem?_take, List.getElem?_append] at this
    rw [if_pos (by omega), if_neg (by omega), show xs.length + j - xs.length = j by omega, hj] at this
    exact this
  simp [e]
theorem Lent.chg {S : List Nat} {w w' : World} {g : Nat} {xs : List UInt8} (h : Lent w g xs) (hc : Chg S w w') (hg : g ∉ S) : Lent w' g xs := by
  obtain ⟨full, h1, h2⟩ := h
  exact ⟨full, hc.at_ h1 hg, h2⟩

/-- A row of bytes, whole. -/
def Row (w : World) (g : Nat) (full : List UInt8) : Prop := w.heap[g]? = some (.cells (full.map bv).toArray 5 (0, 0))
theorem Row.cell {w : World} {g : Nat} {full : List UInt8} (h : Row w g full) (j : Nat) (hj : j < full.length) : w.cell? ⟨g, j, none⟩ = some (.int .u8 ((full.getD j 0).toNat : Int)) := by
  rw [cell_of h j]
  simp [List.getD, hj, bv]
theorem Row.set {w : World} {g : Nat} {full : List UInt8} (h : Row w g full) (j : Nat) (x : Int) (c : UInt8) (hx : x = (c.toNat : Int)) : Row (w.setCell ⟨g, j, none⟩ (.int .u8 x)) g (full.set j c) := by
  have := heap_setCell_same w g j _ _ (.int .u8 x) h
  unfold Row
  rw [this]
  subst hx
  congr 2
  simp [bv]
theorem pick_t (x n : Int) (hn : 1 ≤ n) : x.tmod n = x % n ∨ x.tmod n = x % n - n := by
  rw [Int.tmod_eq_emod]
  split
  · left; omega
  · right; omega
theorem pick_math (x n : Int) (hn : 1 ≤ n) : (x.tmod n + n) % n = x % n := by
  rcases pick_t x n hn with h | h
  · rw [h, Int.add_emod_right, Int.emod_emod]
  · rw [h, show x % n - n + n = x % n by omega, Int.emod_emod]

set_option maxHeartbeats 400000 in
theorem pick_any (w : World) (x n : Int) (hn : 1 ≤ n) (h2 : n ≤ 4611686018427387904) : Calls Tryz.prog 38 #[.int .i64 x, .int .i64 n] w fun e w' => e = .returned (.int .i64 (x % n)) ∧ w = w' := by
  rw [← pick_math x n hn]
  have h0 := Int.emod_nonneg x (show n ≠ 0 by omega)
  have h1 := Int.emod_lt_of_pos x (show 0 < n by omega)
  have b1 : -n ≤ x.tmod n := by rcases pick_t x n hn with h | h <;> omega
  have b2 : x.tmod n < n := by rcases pick_t x n hn with h | h <;> omega
  clear h0 h1
  go_enter Tryz.func38, Tryz.ntmps38
  go_wp2
  go_ret
  exact ⟨rfl, rfl⟩
end
section
open Go.RowKit

/-- Which of two numbers is less: -1, 0, 1. -/
def cmpI (a b : Int) : Int := if a < b then -1 else if b < a then 1 else 0

set_option maxHeartbeats 400000 in
theorem isnan_any (x : Int) (w : World) : Calls Tryz.prog 153 #[.int .i64 x] w fun e w' => e = .returned (.bool false) ∧ w = w' := by
  have h : (x != x) = false := by simp
  go_enter Tryz.func153, Tryz.ntmps153
  go_wp2
  go_ret
  exact ⟨rfl, rfl⟩
set_option maxHeartbeats 400000 in
theorem cmpint_any (a b : Int) (w : World) : Calls Tryz.prog 132 #[.int .i64 a, .int .i64 b] w fun e w' => e = .returned (.int .i64 (cmpI a b)) ∧ w = w' := by
  unfold cmpI
  rcases Int.lt_trichotomy a b with h | h | h
  · rw [if_pos h]
    go_enter Tryz.func132, Tryz.ntmps132
    go_wp2_with (go_at_call 153; refine (isnan_any _ _).mono ?_; rintro e w' ⟨rfl, rfl⟩)
    go_ret
    exact ⟨rfl, rfl⟩
  · subst h
    rw [if_neg (by omega), if_neg (by omega)]
    go_enter Tryz.func132, Tryz.ntmps132
    go_wp2_with (go_at_call 153; refine (isnan_any _ _).mono ?_; rintro e w' ⟨rfl, rfl⟩)
    go_ret
    exact ⟨rfl, rfl⟩
  · rw [if_neg (by omega), if_pos h]
    have h' : ¬ a < b := by omega
    go_enter Tryz.func132, Tryz.ntmps132
    go_wp2_with (go_at_call 153; refine (isnan_any _ _).mono ?_; rintro e w' ⟨rfl, rfl⟩)
    go_ret
    exact ⟨rfl, rfl⟩
end
section
open Go.RowKit
set_option linter.unusedSimpArgs false
set_option linter.unusedVariables false

/-- Which dots may be. -/
def FineD (n s : Int) : Prop := 1 ≤ n ∧ n ≤ 200 ∧ 1 ≤ s ∧ s ≤ 2147483647
instance (n s : Int) : Decidable (FineD n s) := by unfold FineD; exact inferInstance
/-- Why a dot may not be. -/
def chkD (n s : Int) : Int := if FineD n s then 0 else 2
theorem chkD_fine {n s : Int} (h : FineD n s) : chkD n s = 0 := if_pos h
theorem chkD_odd {n s : Int} (h : ¬ FineD n s) : chkD n s = 2 := if_neg h

set_option maxHeartbeats 400000 in
theorem dcheck_any (w : World) (n s : Int) : Calls Tryz.prog 113 #[.agg #[.int .i64 n, .int .i64 s]] w fun e w' => e = .returned (.int .i64 (chkD n s)) ∧ Chg [] w w' := by
  have go : ∀ v, chkD n s = v → Calls Tryz.prog 113 #[.agg #[.int .i64 n, .int .i64 s]] w (fun e w' => e = .returned (.int .i64 v) ∧ Chg [] w w') → Calls Tryz.prog 113 #[.agg #[.int .i64 n, .int .i64 s]] w fun e w' => e = .returned (.int .i64 (chkD n s)) ∧ Chg [] w w' := fun v hv h => hv ▸ h
  by_cases h : FineD n s
  · refine go 0 (chkD_fine h) ?_
    clear go
    obtain ⟨h1, h2, h3, h4⟩ := h
    go_enter Tryz.func113, Tryz.ntmps113
    go_wp2
    go_ret
    exact ⟨rfl, (Chg.refl _ _).alloc _⟩
  · refine go 2 (chkD_odd h) ?_
    clear go
    unfold FineD at h
    by_cases h1 : n < 1
    · clear h
      go_enter Tryz.func113, Tryz.ntmps113
      go_wp2
      go_ret
      exact ⟨rfl, (Chg.refl _ _).alloc _⟩
    by_cases h2 : 200 < n
    · clear h
      go_enter Tryz.func113, Tryz.ntmps113
      go_wp2
      go_ret
      exact ⟨rfl, (Chg.refl _ _).alloc _⟩
    by_cases h3 : s < 1
    · clear h
      go_enter Tryz.func113, Tryz.ntmps113
      go_wp2
      go_ret
      exact ⟨rfl, (Chg.refl _ _).alloc _⟩
    · have h4 : 2147483647 < s := by omega
      clear h
      go_enter Tryz.func113, Tryz.ntmps113
      go_wp2
      go_ret
      exact ⟨rfl, (Chg.refl _ _).alloc _⟩
/-- The order of dots. -/
def or2 (a b : Int) : Int := if a ≠ 0 then a else b
def cmpD (a s b t : Int) : Int := or2 (cmpI a b) (cmpI s t)
theorem cmpI_lt {a b : Int} : cmpI a b < 0 ↔ a < b := by unfold cmpI; split <;> (try split) <;> omega
theorem cmpI_zero {a b : Int} : cmpI a b = 0 ↔ a = b := by unfold cmpI; split <;> (try split) <;> omega
/-- Comes one dot ahead of another one? -/
def LtD (a s b t : Int) : Prop := a < b ∨ a = b ∧ s < t
instance (a s b t : Int) : Decidable (LtD a s b t) := by unfold LtD; exact inferInstance
theorem cmpD_lt {a s b t : Int} : cmpD a s b t < 0 ↔ LtD a s b t := by
  unfold cmpD or2 LtD
  have h1 := @cmpI_lt a b
  have h2 := @cmpI_zero a b
  have h3 := @cmpI_lt s t
  split <;> omega
set_option maxHeartbeats 400000 in
/-- cmp.Or at two numbers. -/
theorem or2_any (w : World) (g : Nat) (a b : Int) (h : w.heap[g]? = some (.cells #[.int .i64 a, .int .i64 b] 3 (0, 0))) :
    Calls Tryz.prog 131 #[.slice (some ⟨g, 0, none⟩) 2 2] w fun e w' => e = .returned (.int .i64 (or2 a b)) ∧ w = w' := by
  unfold or2
  have k0 := cell_of h 0
  have k1 := cell_of h 1
  simp only [List.getElem?_toArray, List.getElem?_cons_succ, List.getElem?_cons_zero] at k0 k1
  clear h
  by_cases ha : a = 0
  · subst ha
    rw [if_neg (by simp)]
    by_cases hb : b = 0
    · subst hb
      go_enter Tryz.func131, Tryz.ntmps131
      go_wp2
      refine wp_loop_rounds 3 ?_
      rw [rounds_succ]
      go_wp2
      rw [rounds_succ]
      go_wp2
      rw [rounds_succ]
      go_wp2
      go_ret
      exact ⟨rfl, rfl⟩
    · have hb' : (b != 0) = true := by simpa using hb
      clear hb
      go_enter Tryz.func131, Tryz.ntmps131
      go_wp2
      refine wp_loop_rounds 2 ?_
      rw [rounds_succ]
      go_wp2
      rw [rounds_succ]
      go_wp2
      go_ret
      exact ⟨rfl, rfl⟩
  · have ha' : (a != 0) = true := by simpa using ha
    rw [if_pos ha]
    clear ha
    go_enter Tryz.func131, Tryz.ntmps131
    go_wp2
    refine wp_loop_rounds 1 ?_
    rw [rounds_succ]
    go_wp2
    go_ret
    exact ⟨rfl, rfl⟩
end
section
open Go.RowKit
set_option linter.unusedSimpArgs false
set_option linter.unusedVariables false
end
section
open Go.RowKit
set_option linter.unusedSimpArgs false
set_option linter.unusedVariables false
end
section
open Go.RowKit
set_option linter.unusedSimpArgs false
set_option linter.unusedVariables false


def spanTy : RowTy (Int × Int × Int) where
  enc := fun x => [.int .i64 x.1, .int .i64 x.2.1, .int .i64 x.2.2]
  k := 3
  T := 62
  TS := 27
  z := (0, 0, 0)
  zv := .agg #[.int .i64 0, .int .i64 0, .int .i64 0]
  bytes := 24
  klen := fun _ => rfl
  one := by intro x v hv; simp at hv; rcases hv with rfl | rfl | rfl <;> rfl
  zc := rfl
  kpos := by decide
  bpos := by decide
  under := by kernel_rfl
  info := by kernel_rfl
theorem spanCells {w : World} {g o n j : Nat} {xs : List (Int × Int × Int)} (h : RdK spanTy w (some ⟨g, o, none⟩) n xs) {x : Int × Int × Int} (hx : xs[j]? = some x) : w.cell? ⟨g, o + j * 3, none⟩ = some (.int .i64 x.1) ∧ w.cell? ⟨g, o + j * 3 + 1, none⟩ = some (.int .i64 x.2.1) ∧ w.cell? ⟨g, o + j * 3 + 2, none⟩ = some (.int .i64 x.2.2) :=
  ⟨h.at_ j 0 x _ hx rfl, h.at_ j 1 x _ hx rfl, h.at_ j 2 x _ hx rfl⟩
set_option maxRecDepth 100000 in
set_option maxHeartbeats 1000000 in
theorem copyspan_any (w : World) (A : Option Addr) (n c : Nat) (xs : List (Int × Int × Int)) (h : RdK spanTy w A n xs) (hn : n * 400 ≤ 140737488355327) :
    Calls Tryz.prog 44 #[.slice A n c] w fun e w' => ∃ A' c', e = .returned (.slice A' n c') ∧ OwnK spanTy w' A' c' xs ∧ (∀ a, A' = some a → w.heap.size ≤ a.block) ∧ Chg [] w w' := by
  obtain ⟨w1, hw1, c1, b1⟩ := news1 w (.cells #[] 62)
  have W1 := Lib.hid hw1
  have HA := Lib.hid (h.chg c1 (by simp))
  have HO : Hid (OwnK spanTy w1 (some ⟨w.heap.size, 0, none⟩) 0 []) := Lib.hid (.of (full := []) b1 (Nat.le_refl _) (Nat.zero_le _) rfl rfl)
  have C1 := Lib.hid c1

  have HN : Hid ((0 + n) * 400 ≤ 140737488355327) := Lib.hid (by rw [Nat.zero_add]; exact hn)
  clear hw1 c1 b1 h hn
  go_enter Tryz.func44, Tryz.ntmps44
  go_wp2_with (at_builtin; rw [← W1.out]; refine wpList_appK rfl _ _ rfl rfl HO.out rfl rfl HA.out HN.out ?_; intro A2 c2 w2 u2 d2 e2)
  go_ret
  rw [Nat.zero_add] at *
  have hA2 : ∀ a, A2 = some a → w.heap.size ≤ a.block := by
    rintro a rfl
    rcases e2 with h | h
    · cases h; exact Nat.le_refl _
    · cases h; exact C1.out.size
  exact ⟨A2, c2, by simp, by simpa using u2, hA2, C1.out.grown d2 (fun k hk => by simp at hk; subst hk; exact .inr (Nat.le_refl _))⟩
end
section
open Go.RowKit Go.Lib
set_option linter.unusedSimpArgs false
set_option linter.unusedVariables false


/-- Which spans may be, by themselves. -/
def FineS (n f t : Int) : Prop := 1 ≤ n ∧ n ≤ 200 ∧ 1 ≤ f ∧ f ≤ t ∧ t ≤ 2147483647
instance (n f t : Int) : Decidable (FineS n f t) := by unfold FineS; exact inferInstance
/-- The second is behind the first, and does not touch it. -/
def ApartS (n t m g : Int) : Prop := n < m ∨ n = m ∧ t + 1 < g
instance (n t m g : Int) : Decidable (ApartS n t m g) := by unfold ApartS; exact inferInstance
/-- May the rest be, behind that one? -/
def okFrom : Option (Int × Int × Int) → List (Int × Int × Int) → Bool
  | _, [] => true
  | none, x :: l => decide (FineS x.1 x.2.1 x.2.2) && okFrom (some x) l
  | some y, x :: l => decide (FineS x.1 x.2.1 x.2.2) && decide (ApartS y.1 y.2.2 x.1 x.2.1) && okFrom (some x) l
/-- Why a past may not be. -/
def chkS (xs : List (Int × Int × Int)) : Int := if xs.length ≤ 4000 ∧ okFrom none xs = true then 0 else 2
/-- The one ahead of place k. -/
def prevS (xs : List (Int × Int × Int)) (k : Nat) : Option (Int × Int × Int) := if k = 0 then none else xs[k - 1]?
theorem okFrom_next (xs : List (Int × Int × Int)) (k : Nat) (x : Int × Int × Int) (hx : xs[k]? = some x) :
    okFrom (prevS xs k) (xs.drop k) = (decide (FineS x.1 x.2.1 x.2.2) && (match prevS xs k with | none => true | some y => decide (ApartS y.1 y.2.2 x.1 x.2.1)) && okFrom (prevS xs (k + 1)) (xs.drop (k + 1))) := by
  obtain ⟨hk, rfl⟩ := List.getElem?_eq_some_iff.1 hx
  rw [List.drop_eq_getElem_cons hk]
  have e : prevS xs (k + 1) = some xs[k] := by unfold prevS; rw [if_neg (by omega)]; exact List.getElem?_eq_getElem hk
  rw [e]
  cases prevS xs k <;> simp [okFrom]

set_option maxHeartbeats 400000 in
theorem stands_any (w : World) (n f t : Int) : Calls Tryz.prog 142 #[.agg #[.int .i64 n, .int .i64 f, .int .i64 t]] w fun e w' => e = .returned (.bool (decide (FineS n f t))) ∧ Chg [] w w' := by
  have go : ∀ v, decide (FineS n f t) = v → Calls Tryz.prog 142 #[.agg #[.int .i64 n, .int .i64 f, .int .i64 t]] w (fun e w' => e = .returned (.bool v) ∧ Chg [] w w') → Calls Tryz.prog 142 #[.agg #[.int .i64 n, .int .i64 f, .int .i64 t]] w fun e w' => e = .returned (.bool (decide (FineS n f t))) ∧ Chg [] w w' := fun v hv h => hv ▸ h
  by_cases h : FineS n f t
  · refine go true (decide_eq_true h) ?_
    obtain ⟨h1, h2, h3, h4, h5⟩ := h
    clear go
    go_enter Tryz.func142, Tryz.ntmps142
    go_wp2
    go_ret
    exact ⟨rfl, (Chg.refl _ _).alloc _⟩
  · refine go false (decide_eq_false h) ?_
    unfold FineS at h
    by_cases h1 : 1 ≤ n
    rotate_left
    · clear h
      clear go
      go_enter Tryz.func142, Tryz.ntmps142
      go_wp2
      go_ret
      exact ⟨rfl, (Chg.refl _ _).alloc _⟩
    by_cases h2 : n ≤ 200
    rotate_left
    · clear h
      clear go
      go_enter Tryz.func142, Tryz.ntmps142
      go_wp2
      go_ret
      exact ⟨rfl, (Chg.refl _ _).alloc _⟩
    by_cases h3 : 1 ≤ f
    rotate_left
    · clear h
      clear go
      go_enter Tryz.func142, Tryz.ntmps142
      go_wp2
      go_ret
      exact ⟨rfl, (Chg.refl _ _).alloc _⟩
    by_cases h4 : f ≤ t
    rotate_left
    · clear h
      clear go
      go_enter Tryz.func142, Tryz.ntmps142
      go_wp2
      go_ret
      exact ⟨rfl, (Chg.refl _ _).alloc _⟩
    have h5 : ¬ t ≤ 2147483647 := by omega
    clear h
    clear go
    go_enter Tryz.func142, Tryz.ntmps142
    go_wp2
    go_ret
    exact ⟨rfl, (Chg.refl _ _).alloc _⟩
set_option maxHeartbeats 400000 in
theorem apart_any (w : World) (n f t m g u : Int) (ht : -2147483648 ≤ t) (ht2 : t ≤ 2147483647) : Calls Tryz.prog 143 #[.agg #[.int .i64 n, .int .i64 f, .int .i64 t], .agg #[.int .i64 m, .int .i64 g, .int .i64 u]] w fun e w' => e = .returned (.bool (decide (ApartS n t m g))) ∧ Chg [] w w' := by
  have go : ∀ v, decide (ApartS n t m g) = v → Calls Tryz.prog 143 #[.agg #[.int .i64 n, .int .i64 f, .int .i64 t], .agg #[.int .i64 m, .int .i64 g, .int .i64 u]] w (fun e w' => e = .returned (.bool v) ∧ Chg [] w w') → Calls Tryz.prog 143 #[.agg #[.int .i64 n, .int .i64 f, .int .i64 t], .agg #[.int .i64 m, .int .i64 g, .int .i64 u]] w fun e w' => e = .returned (.bool (decide (ApartS n t m g))) ∧ Chg [] w w' := fun v hv h => hv ▸ h
  have wr : IntKind.i64.wrap (t + 1) = t + 1 := IntWalk.i64_in _ (by omega)
  by_cases h1 : n < m
  · refine go true (decide_eq_true (.inl h1)) ?_
    clear go
    go_enter Tryz.func143, Tryz.ntmps143
    go_wp2
    go_ret
    exact ⟨rfl, ((Chg.refl _ _).alloc _).alloc _⟩
  by_cases h2 : n = m
  rotate_left
  · refine go false (decide_eq_false (by unfold ApartS; omega)) ?_
    clear go
    go_enter Tryz.func143, Tryz.ntmps143
    go_wp2
    go_ret
    exact ⟨rfl, ((Chg.refl _ _).alloc _).alloc _⟩
  by_cases h3 : t + 1 < g
  · refine go true (decide_eq_true (.inr ⟨h2, h3⟩)) ?_
    subst h2
    clear go
    go_enter Tryz.func143, Tryz.ntmps143
    go_wp2
    go_ret
    exact ⟨rfl, ((Chg.refl _ _).alloc _).alloc _⟩
  · refine go false (decide_eq_false (by unfold ApartS; omega)) ?_
    subst h2
    clear go
    go_enter Tryz.func143, Tryz.ntmps143
    go_wp2
    go_ret
    exact ⟨rfl, ((Chg.refl _ _).alloc _).alloc _⟩
end
section
open Go.RowKit Go.Lib
set_option linter.unusedSimpArgs false
set_option linter.unusedVariables false



set_option maxHeartbeats 4000000 in
set_option maxRecDepth 100000 in
theorem pacheck_any (w : World) (A : Option Addr) (n c : Nat) (xs : List (Int × Int × Int)) (h : RdK spanTy w A n xs) (hn : n ≤ 140737488351232) : Calls Tryz.prog 100 #[.slice A n c] w fun e w' => e = .returned (.int .i64 (chkS xs)) ∧ Chg [] w w' := by
  have go : ∀ v, chkS xs = v → Calls Tryz.prog 100 #[.slice A n c] w (fun e w' => e = .returned (.int .i64 v) ∧ Chg [] w w') → Calls Tryz.prog 100 #[.slice A n c] w fun e w' => e = .returned (.int .i64 (chkS xs)) ∧ Chg [] w w' := fun v hv h => hv ▸ h
  have hl := h.len
  subst hl
  by_cases hbig : 4000 < xs.length
  · refine go 2 (if_neg (by omega)) ?_
    clear go h
    go_enter Tryz.func100, Tryz.ntmps100
    go_wp2
    go_ret
    exact ⟨rfl, Chg.refl _ _⟩
  · skip
    have HX := Lib.hid h
    have hV : chkS xs = if okFrom none xs = true then 0 else 2 := by unfold chkS; by_cases ho : okFrom none xs = true <;> simp [ho] <;> omega
    have HV := Lib.hid hV
    clear h go
    generalize chkS xs = V at *
    clear hV
    go_enter Tryz.func100, Tryz.ntmps100
    go_wp2
    go_loopw [10] (fun i wr => ∃ (k : Nat), k ≤ xs.length ∧ i = .int .i64 k ∧ Hid (Chg [] w wr ∧ okFrom none xs = okFrom (prevS xs k) (xs.drop k) ∧ ∀ y, prevS xs k = some y → FineS y.1 y.2.1 y.2.2)) (fun i _ => xs.length - (RowKit.intOf i).toNat)
    case atStart => exact ⟨0, Nat.zero_le _, rfl, Chg.refl _ _, rfl, by unfold prevS; simp⟩
    case round =>
      obtain ⟨k, hk, rfl, HI⟩ := hrel
      generalize wr = w1 at *
      clear wr
      by_cases hlt : k < xs.length
      · skip
        obtain ⟨g, o, eA, _⟩ := HX.out.line (by omega)
        subst eA
        have ex := List.getElem?_eq_getElem hlt
        generalize xs[k] = x at *
        have EX := Lib.hid ex
        have hok := okFrom_next xs k x ex
        have HOK := Lib.hid (HI.out.2.1.trans hok)
        clear ex hok
        have i0 : (0 : Int) ≤ (k : Int) := by omega
        have i1 : (k : Int) < (xs.length : Int) := by omega
        have hcc := spanCells (HX.out.chg HI.out.1 (by simp)) EX.out
        obtain ⟨p0, p1, p2⟩ := hcc
        have CW := Lib.hid HI.out.1
        obtain ⟨w2, hw2, cw2, b_B0⟩ := news1 w1 (.cells #[.int .i64 x.1, .int .i64 x.2.1, .int .i64 x.2.2] 62)
        have Ww2 := Lib.hid hw2
        have l_B0 := lt_of_heap b_B0
        replace CW := Lib.hid (CW.out.trans cw2)
        have B0 := Lib.hid (b_B0)
        clear hw2 cw2 b_B0
        skip
        go_upto_region 6 with fail
        rw [← Ww2.out]
        generalize w1.heap.size = b at *
        clear Ww2
        have hc0 : ∀ w', Chg [] w2 w' → w'.cell? ⟨b, 0, none⟩ = some (.int .i64 x.1) ∧ w'.cell? ⟨b, 1, none⟩ = some (.int .i64 x.2.1) ∧ w'.cell? ⟨b, 2, none⟩ = some (.int .i64 x.2.2) := by
          intro w' hc
          have b1 := hc.at_ B0.out (by simp)
          exact ⟨cell_of b1 0, cell_of b1 1, cell_of b1 2⟩
        have HC0 := Lib.hid hc0
        clear hc0
        have LS := Lib.hid (fun w => stands_any w x.1 x.2.1 x.2.2)
        by_cases hf : FineS x.1 x.2.1 x.2.2
        · have hd : decide (FineS x.1 x.2.1 x.2.2) = true := decide_eq_true hf
          have HFN := Lib.hid hf
          rw [hd] at LS HOK
          clear hd hf
          by_cases h0 : k = 0
          · subst h0
            refine wp_region_held_drew (S := fun w' => Chg [] w2 w') (by kernel_rfl) (Chg.refl [] w2).drew (fun hHeld => ?_)
            refine step_yes 0 15 ?_ (by assumption) rfl rfl (by kernel_rfl) (by kernel_rfl) (by kernel_rfl) (fun _ _ _ h => h) (by rfl) ?_ ?_
            rotate_left
            · (intro w hSw; (try dsimp only at hSw); have hq := HC0.out _ hSw; obtain ⟨q0, q1, q2⟩ := hq; go_simp; try with_reducible rfl)
            try simp only [Act.put, List.setIfInBounds_toArray, List.set_cons_zero, List.set_cons_succ]
            refine wpAnyH_ready (rs := [1]) (by kernel_rfl) (by simp) ?_
            refine AllReadyH.cons rfl (fun K hK => ?_) AllReadyH.nil
            replace hK := Lib.hid hK
            go_simp
            refine (LS.out _).mono ?_
            rintro e w9 ⟨rfl, hc⟩
            have C9 := Lib.hid (hHeld.trans hc)
            clear hc hHeld
            refine hK.out _ _ C9.out (fun hHeld => ?_)
            clear hK K
            try simp only [Act.put, List.setIfInBounds_toArray, List.set_cons_zero, List.set_cons_succ]
            refine step_yes 2 17 ?_ (by assumption) rfl rfl (by kernel_rfl) (by kernel_rfl) (by kernel_rfl) (fun _ _ _ h => h) (by rfl) ?_ ?_
            rotate_left
            · (intro w hSw; (try dsimp only at hSw); go_simp; try with_reducible rfl)
            try simp only [Act.put, List.setIfInBounds_toArray, List.set_cons_zero, List.set_cons_succ]
            refine step_yes 3 18 ?_ (by assumption) rfl rfl (by kernel_rfl) (by kernel_rfl) (by kernel_rfl) (fun _ _ _ h => h) (by rfl) ?_ ?_
            rotate_left
            · (intro w hSw; (try dsimp only at hSw); go_simp; try with_reducible rfl)
            try simp only [Act.put, List.setIfInBounds_toArray, List.set_cons_zero, List.set_cons_succ]
            refine step_yes 4 19 ?_ (by assumption) rfl rfl (by kernel_rfl) (by kernel_rfl) (by kernel_rfl) (fun _ _ _ h => h) (by rfl) ?_ ?_
            rotate_left
            · (intro w hSw; (try dsimp only at hSw); go_simp; try with_reducible rfl)
            try simp only [Act.put, List.setIfInBounds_toArray, List.set_cons_zero, List.set_cons_succ]
            refine step_yes 5 20 ?_ (by assumption) rfl rfl (by kernel_rfl) (by kernel_rfl) (by kernel_rfl) (fun _ _ _ h => h) (by rfl) ?_ ?_
            rotate_left
            · (intro w hSw; (try dsimp only at hSw); go_simp; try with_reducible rfl)
            try simp only [Act.put, List.setIfInBounds_toArray, List.set_cons_zero, List.set_cons_succ]
            refine step_yes 6 21 ?_ (by assumption) rfl rfl (by kernel_rfl) (by kernel_rfl) (by kernel_rfl) (fun _ _ _ h => h) (by rfl) ?_ ?_
            rotate_left
            · (intro w hSw; (try dsimp only at hSw); go_simp; try with_reducible rfl)
            try simp only [Act.put, List.setIfInBounds_toArray, List.set_cons_zero, List.set_cons_succ]
            refine step_no 7 22 (by assumption) rfl rfl (by kernel_rfl) (by kernel_rfl) (by kernel_rfl) (fun _ _ _ h => h) (by rfl) ?_
            try simp only [Act.put, List.setIfInBounds_toArray, List.set_cons_zero, List.set_cons_succ]
            refine step_no 8 23 (by assumption) rfl rfl (by kernel_rfl) (by kernel_rfl) (by kernel_rfl) (fun _ _ _ h => h) (by rfl) ?_
            try simp only [Act.put, List.setIfInBounds_toArray, List.set_cons_zero, List.set_cons_succ]
            refine step_no 9 24 (by assumption) rfl rfl (by kernel_rfl) (by kernel_rfl) (by kernel_rfl) (fun _ _ _ h => h) (by rfl) ?_
            try simp only [Act.put, List.setIfInBounds_toArray, List.set_cons_zero, List.set_cons_succ]
            refine step_no 10 25 (by assumption) rfl rfl (by kernel_rfl) (by kernel_rfl) (by kernel_rfl) (fun _ _ _ h => h) (by rfl) ?_
            try simp only [Act.put, List.setIfInBounds_toArray, List.set_cons_zero, List.set_cons_succ]
            refine step_no 11 26 (by assumption) rfl rfl (by kernel_rfl) (by kernel_rfl) (by kernel_rfl) (fun _ _ _ h => h) (by rfl) ?_
            try simp only [Act.put, List.setIfInBounds_toArray, List.set_cons_zero, List.set_cons_succ]
            refine step_no 12 27 (by assumption) rfl rfl (by kernel_rfl) (by kernel_rfl) (by kernel_rfl) (fun _ _ _ h => h) (by rfl) ?_
            try simp only [Act.put, List.setIfInBounds_toArray, List.set_cons_zero, List.set_cons_succ]
            refine step_no 13 28 (by assumption) rfl rfl (by kernel_rfl) (by kernel_rfl) (by kernel_rfl) (fun _ _ _ h => h) (by rfl) ?_
            try simp only [Act.put, List.setIfInBounds_toArray, List.set_cons_zero, List.set_cons_succ]
            refine step_no 14 29 (by assumption) rfl rfl (by kernel_rfl) (by kernel_rfl) (by kernel_rfl) (fun _ _ _ h => h) (by rfl) ?_
            try simp only [Act.put, List.setIfInBounds_toArray, List.set_cons_zero, List.set_cons_succ]
            refine step_yes 15 30 ?_ (by assumption) rfl rfl (by kernel_rfl) (by kernel_rfl) (by kernel_rfl) (fun _ _ _ h => h) (by rfl) ?_ ?_
            rotate_left
            · (intro w hSw; (try dsimp only at hSw); go_simp; try with_reducible rfl)
            try simp only [Act.put, List.setIfInBounds_toArray, List.set_cons_zero, List.set_cons_succ]
            refine step_yes 16 31 ?_ (by assumption) rfl rfl (by kernel_rfl) (by kernel_rfl) (by kernel_rfl) (fun _ _ _ h => h) (by rfl) ?_ ?_
            rotate_left
            · (intro w hSw; (try dsimp only at hSw); go_simp; try with_reducible rfl)
            try simp only [Act.put, List.setIfInBounds_toArray, List.set_cons_zero, List.set_cons_succ]
            refine wpAnyH_done (by kernel_rfl) ?_ _
            go_wp2
            have e1 : prevS xs (0 + 1) = some x := by unfold prevS; rw [if_neg (by omega)]; exact EX.out
            have CE := Lib.hid (CW.out.trans C9.out)
            refine ⟨⟨0 + 1, by omega, by simp, CE.out, ?_, ?_⟩, by simp [RowKit.intOf]; omega⟩
            · rw [HOK.out]; simp [prevS]
            · rw [e1]; rintro y ⟨⟩; exact HFN.out
          · have hk1 : k - 1 < xs.length := by omega
            have ey := List.getElem?_eq_getElem hk1
            generalize xs[k - 1] = y at *
            have ep : prevS xs k = some y := by unfold prevS; rw [if_neg h0]; exact ey
            have EY := Lib.hid ey
            have HFY := Lib.hid (HI.out.2.2 y ep)
            rw [ep] at HOK
            dsimp only at HOK
            clear ey ep
            have hy0 : ∀ w', Chg [] w2 w' → w'.cell? ⟨g, o + (k - 1) * 3, none⟩ = some (.int .i64 y.1) ∧ w'.cell? ⟨g, o + (k - 1) * 3 + 1, none⟩ = some (.int .i64 y.2.1) ∧ w'.cell? ⟨g, o + (k - 1) * 3 + 2, none⟩ = some (.int .i64 y.2.2) := fun w' hc => spanCells (HX.out.chg (CW.out.trans hc) (by simp)) EY.out
            have HY0 := Lib.hid hy0
            clear hy0
            have LA := Lib.hid (fun w => apart_any w y.1 y.2.1 y.2.2 x.1 x.2.1 x.2.2 (by have := HFY.out; unfold FineS at this; omega) (by have := HFY.out; unfold FineS at this; omega))
            have hk2 : ((k : Int) - 1) = ((k - 1 : Nat) : Int) := by omega
            have hk3 : (0 : Int) < (k : Int) := by omega
            have hk4 : ((k - 1 : Nat) : Int) < (xs.length : Int) := by omega
            have hk5 : (0 : Int) ≤ ((k - 1 : Nat) : Int) := by omega
            have hk6 : IntKind.i64.wrap ((k - 1 : Nat) : Int) = ((k - 1 : Nat) : Int) := IntWalk.i64_in _ (by omega)
            have hk7 : decide (0 < k) = true := by simp; omega
            refine (Bool.eq_false_or_eq_true (decide (ApartS y.1 y.2.2 x.1 x.2.1))).elim (fun hA => ?AT) (fun hA => ?AF)
            case AT =>
              rw [hA] at LA HOK
              clear hA
              refine wp_region_held_drew (S := fun w' => Chg [] w2 w') (by kernel_rfl) (Chg.refl [] w2).drew (fun hHeld => ?_)
              refine step_yes 0 15 ?_ (by assumption) rfl rfl (by kernel_rfl) (by kernel_rfl) (by kernel_rfl) (fun _ _ _ h => h) (by rfl) ?_ ?_
              rotate_left
              · (intro w hSw; (try dsimp only at hSw); have hq := HC0.out _ hSw; obtain ⟨q0, q1, q2⟩ := hq; go_simp; try with_reducible rfl)
              try simp only [Act.put, List.setIfInBounds_toArray, List.set_cons_zero, List.set_cons_succ]
              refine wpAnyH_ready (rs := [1]) (by kernel_rfl) (by simp) ?_
              refine AllReadyH.cons rfl (fun K hK => ?_) AllReadyH.nil
              replace hK := Lib.hid hK
              go_simp
              refine (LS.out _).mono ?_
              rintro e w9 ⟨rfl, hc⟩
              have C9 := Lib.hid (hHeld.trans hc)
              clear hc hHeld
              refine hK.out _ _ C9.out (fun hHeld => ?_)
              clear hK K
              try simp only [Act.put, List.setIfInBounds_toArray, List.set_cons_zero, List.set_cons_succ]
              refine step_yes 2 17 ?_ (by assumption) rfl rfl (by kernel_rfl) (by kernel_rfl) (by kernel_rfl) (fun _ _ _ h => h) (by rfl) ?_ ?_
              rotate_left
              · (intro w hSw; (try dsimp only at hSw); go_simp; try with_reducible rfl)
              try simp only [Act.put, List.setIfInBounds_toArray, List.set_cons_zero, List.set_cons_succ]
              refine step_yes 3 18 ?_ (by assumption) rfl rfl (by kernel_rfl) (by kernel_rfl) (by kernel_rfl) (fun _ _ _ h => h) (by rfl) ?_ ?_
              rotate_left
              · (intro w hSw; (try dsimp only at hSw); go_simp; try with_reducible rfl)
              try simp only [Act.put, List.setIfInBounds_toArray, List.set_cons_zero, List.set_cons_succ]
              refine step_yes 4 19 ?_ (by assumption) rfl rfl (by kernel_rfl) (by kernel_rfl) (by kernel_rfl) (fun _ _ _ h => h) (by rfl) ?_ ?_
              rotate_left
              · (intro w hSw; (try dsimp only at hSw); go_simp; try with_reducible rfl)
              try simp only [Act.put, List.setIfInBounds_toArray, List.set_cons_zero, List.set_cons_succ]
              refine step_yes 5 20 ?_ (by assumption) rfl rfl (by kernel_rfl) (by kernel_rfl) (by kernel_rfl) (fun _ _ _ h => h) (by rfl) ?_ ?_
              rotate_left
              · (intro w hSw; (try dsimp only at hSw); go_simp; try with_reducible rfl)
              try simp only [Act.put, List.setIfInBounds_toArray, List.set_cons_zero, List.set_cons_succ]
              refine step_yes 6 21 ?_ (by assumption) rfl rfl (by kernel_rfl) (by kernel_rfl) (by kernel_rfl) (fun _ _ _ h => h) (by rfl) ?_ ?_
              rotate_left
              · (intro w hSw; (try dsimp only at hSw); go_simp; try with_reducible rfl)
              try simp only [Act.put, List.setIfInBounds_toArray, List.set_cons_zero, List.set_cons_succ]
              refine step_yes 7 22 ?_ (by assumption) rfl rfl (by kernel_rfl) (by kernel_rfl) (by kernel_rfl) (fun _ _ _ h => h) (by rfl) ?_ ?_
              rotate_left
              · (intro w hSw; (try dsimp only at hSw); go_simp; try with_reducible rfl)
              try simp only [Act.put, List.setIfInBounds_toArray, List.set_cons_zero, List.set_cons_succ]
              refine step_yes 8 23 ?_ (by assumption) rfl rfl (by kernel_rfl) (by kernel_rfl) (by kernel_rfl) (fun _ _ _ h => h) (by rfl) ?_ ?_
              rotate_left
              · (intro w hSw; (try dsimp only at hSw); go_simp; try with_reducible rfl)
              try simp only [Act.put, List.setIfInBounds_toArray, List.set_cons_zero, List.set_cons_succ]
              refine step_yes 9 24 ?_ (by assumption) rfl rfl (by kernel_rfl) (by kernel_rfl) (by kernel_rfl) (fun _ _ _ h => h) (by rfl) ?_ ?_
              rotate_left
              · (intro w hSw; (try dsimp only at hSw); go_simp; try with_reducible rfl)
              try simp only [Act.put, List.setIfInBounds_toArray, List.set_cons_zero, List.set_cons_succ]
              refine step_yes 10 25 ?_ (by assumption) rfl rfl (by kernel_rfl) (by kernel_rfl) (by kernel_rfl) (fun _ _ _ h => h) (by rfl) ?_ ?_
              rotate_left
              · (intro w hSw; (try dsimp only at hSw); go_simp; try with_reducible rfl)
              try simp only [Act.put, List.setIfInBounds_toArray, List.set_cons_zero, List.set_cons_succ]
              refine step_yes 11 26 ?_ (by assumption) rfl rfl (by kernel_rfl) (by kernel_rfl) (by kernel_rfl) (fun _ _ _ h => h) (by rfl) ?_ ?_
              rotate_left
              · (intro w hSw; (try dsimp only at hSw); have hq := HY0.out _ hSw; obtain ⟨q0, q1, q2⟩ := hq; go_simp; try with_reducible rfl)
              try simp only [Act.put, List.setIfInBounds_toArray, List.set_cons_zero, List.set_cons_succ]
              refine step_yes 12 27 ?_ (by assumption) rfl rfl (by kernel_rfl) (by kernel_rfl) (by kernel_rfl) (fun _ _ _ h => h) (by rfl) ?_ ?_
              rotate_left
              · (intro w hSw; (try dsimp only at hSw); have hq := HC0.out _ hSw; obtain ⟨q0, q1, q2⟩ := hq; go_simp; try with_reducible rfl)
              try simp only [Act.put, List.setIfInBounds_toArray, List.set_cons_zero, List.set_cons_succ]
              refine wpAnyH_ready (rs := [13]) (by kernel_rfl) (by simp) ?_
              refine AllReadyH.cons rfl (fun K hK => ?_) AllReadyH.nil
              replace hK := Lib.hid hK
              go_simp
              refine (LA.out _).mono ?_
              rintro e v9 ⟨rfl, hc⟩
              have D9 := Lib.hid (C9.out.trans hc)
              clear hc C9
              have C9 := D9
              clear D9
              refine hK.out _ _ C9.out (fun hHeld => ?_)
              clear hK K
              try simp only [Act.put, List.setIfInBounds_toArray, List.set_cons_zero, List.set_cons_succ]
              refine step_yes 14 29 ?_ (by assumption) rfl rfl (by kernel_rfl) (by kernel_rfl) (by kernel_rfl) (fun _ _ _ h => h) (by rfl) ?_ ?_
              rotate_left
              · (intro w hSw; (try dsimp only at hSw); go_simp; try with_reducible rfl)
              try simp only [Act.put, List.setIfInBounds_toArray, List.set_cons_zero, List.set_cons_succ]
              refine step_yes 15 30 ?_ (by assumption) rfl rfl (by kernel_rfl) (by kernel_rfl) (by kernel_rfl) (fun _ _ _ h => h) (by rfl) ?_ ?_
              rotate_left
              · (intro w hSw; (try dsimp only at hSw); go_simp; try with_reducible rfl)
              try simp only [Act.put, List.setIfInBounds_toArray, List.set_cons_zero, List.set_cons_succ]
              refine step_yes 16 31 ?_ (by assumption) rfl rfl (by kernel_rfl) (by kernel_rfl) (by kernel_rfl) (fun _ _ _ h => h) (by rfl) ?_ ?_
              rotate_left
              · (intro w hSw; (try dsimp only at hSw); go_simp; try with_reducible rfl)
              try simp only [Act.put, List.setIfInBounds_toArray, List.set_cons_zero, List.set_cons_succ]
              refine wpAnyH_done (by kernel_rfl) ?_ _
              go_wp2
              have e1 : prevS xs (k + 1) = some x := by unfold prevS; rw [if_neg (by omega)]; exact EX.out
              have CE := Lib.hid (CW.out.trans C9.out)
              refine ⟨⟨k + 1, by omega, by simp, CE.out, ?_, ?_⟩, by simp [RowKit.intOf]; omega⟩
              · rw [HOK.out]; simp [e1]
              · rw [e1]; rintro y ⟨⟩; exact HFN.out
            case AF =>
              rw [hA] at LA HOK
              clear hA
              refine wp_region_held_drew (S := fun w' => Chg [] w2 w') (by kernel_rfl) (Chg.refl [] w2).drew (fun hHeld => ?_)
              refine step_yes 0 15 ?_ (by assumption) rfl rfl (by kernel_rfl) (by kernel_rfl) (by kernel_rfl) (fun _ _ _ h => h) (by rfl) ?_ ?_
              rotate_left
              · (intro w hSw; (try dsimp only at hSw); have hq := HC0.out _ hSw; obtain ⟨q0, q1, q2⟩ := hq; go_simp; try with_reducible rfl)
              try simp only [Act.put, List.setIfInBounds_toArray, List.set_cons_zero, List.set_cons_succ]
              refine wpAnyH_ready (rs := [1]) (by kernel_rfl) (by simp) ?_
              refine AllReadyH.cons rfl (fun K hK => ?_) AllReadyH.nil
              replace hK := Lib.hid hK
              go_simp
              refine (LS.out _).mono ?_
              rintro e w9 ⟨rfl, hc⟩
              have C9 := Lib.hid (hHeld.trans hc)
              clear hc hHeld
              refine hK.out _ _ C9.out (fun hHeld => ?_)
              clear hK K
              try simp only [Act.put, List.setIfInBounds_toArray, List.set_cons_zero, List.set_cons_succ]
              refine step_yes 2 17 ?_ (by assumption) rfl rfl (by kernel_rfl) (by kernel_rfl) (by kernel_rfl) (fun _ _ _ h => h) (by rfl) ?_ ?_
              rotate_left
              · (intro w hSw; (try dsimp only at hSw); go_simp; try with_reducible rfl)
              try simp only [Act.put, List.setIfInBounds_toArray, List.set_cons_zero, List.set_cons_succ]
              refine step_yes 3 18 ?_ (by assumption) rfl rfl (by kernel_rfl) (by kernel_rfl) (by kernel_rfl) (fun _ _ _ h => h) (by rfl) ?_ ?_
              rotate_left
              · (intro w hSw; (try dsimp only at hSw); go_simp; try with_reducible rfl)
              try simp only [Act.put, List.setIfInBounds_toArray, List.set_cons_zero, List.set_cons_succ]
              refine step_yes 4 19 ?_ (by assumption) rfl rfl (by kernel_rfl) (by kernel_rfl) (by kernel_rfl) (fun _ _ _ h => h) (by rfl) ?_ ?_
              rotate_left
              · (intro w hSw; (try dsimp only at hSw); go_simp; try with_reducible rfl)
              try simp only [Act.put, List.setIfInBounds_toArray, List.set_cons_zero, List.set_cons_succ]
              refine step_yes 5 20 ?_ (by assumption) rfl rfl (by kernel_rfl) (by kernel_rfl) (by kernel_rfl) (fun _ _ _ h => h) (by rfl) ?_ ?_
              rotate_left
              · (intro w hSw; (try dsimp only at hSw); go_simp; try with_reducible rfl)
              try simp only [Act.put, List.setIfInBounds_toArray, List.set_cons_zero, List.set_cons_succ]
              refine step_yes 6 21 ?_ (by assumption) rfl rfl (by kernel_rfl) (by kernel_rfl) (by kernel_rfl) (fun _ _ _ h => h) (by rfl) ?_ ?_
              rotate_left
              · (intro w hSw; (try dsimp only at hSw); go_simp; try with_reducible rfl)
              try simp only [Act.put, List.setIfInBounds_toArray, List.set_cons_zero, List.set_cons_succ]
              refine step_yes 7 22 ?_ (by assumption) rfl rfl (by kernel_rfl) (by kernel_rfl) (by kernel_rfl) (fun _ _ _ h => h) (by rfl) ?_ ?_
              rotate_left
              · (intro w hSw; (try dsimp only at hSw); go_simp; try with_reducible rfl)
              try simp only [Act.put, List.setIfInBounds_toArray, List.set_cons_zero, List.set_cons_succ]
              refine step_yes 8 23 ?_ (by assumption) rfl rfl (by kernel_rfl) (by kernel_rfl) (by kernel_rfl) (fun _ _ _ h => h) (by rfl) ?_ ?_
              rotate_left
              · (intro w hSw; (try dsimp only at hSw); go_simp; try with_reducible rfl)
              try simp only [Act.put, List.setIfInBounds_toArray, List.set_cons_zero, List.set_cons_succ]
              refine step_yes 9 24 ?_ (by assumption) rfl rfl (by kernel_rfl) (by kernel_rfl) (by kernel_rfl) (fun _ _ _ h => h) (by rfl) ?_ ?_
              rotate_left
              · (intro w hSw; (try dsimp only at hSw); go_simp; try with_reducible rfl)
              try simp only [Act.put, List.setIfInBounds_toArray, List.set_cons_zero, List.set_cons_succ]
              refine step_yes 10 25 ?_ (by assumption) rfl rfl (by kernel_rfl) (by kernel_rfl) (by kernel_rfl) (fun _ _ _ h => h) (by rfl) ?_ ?_
              rotate_left
              · (intro w hSw; (try dsimp only at hSw); go_simp; try with_reducible rfl)
              try simp only [Act.put, List.setIfInBounds_toArray, List.set_cons_zero, List.set_cons_succ]
              refine step_yes 11 26 ?_ (by assumption) rfl rfl (by kernel_rfl) (by kernel_rfl) (by kernel_rfl) (fun _ _ _ h => h) (by rfl) ?_ ?_
              rotate_left
              · (intro w hSw; (try dsimp only at hSw); have hq := HY0.out _ hSw; obtain ⟨q0, q1, q2⟩ := hq; go_simp; try with_reducible rfl)
              try simp only [Act.put, List.setIfInBounds_toArray, List.set_cons_zero, List.set_cons_succ]
              refine step_yes 12 27 ?_ (by assumption) rfl rfl (by kernel_rfl) (by kernel_rfl) (by kernel_rfl) (fun _ _ _ h => h) (by rfl) ?_ ?_
              rotate_left
              · (intro w hSw; (try dsimp only at hSw); have hq := HC0.out _ hSw; obtain ⟨q0, q1, q2⟩ := hq; go_simp; try with_reducible rfl)
              try simp only [Act.put, List.setIfInBounds_toArray, List.set_cons_zero, List.set_cons_succ]
              refine wpAnyH_ready (rs := [13]) (by kernel_rfl) (by simp) ?_
              refine AllReadyH.cons rfl (fun K hK => ?_) AllReadyH.nil
              replace hK := Lib.hid hK
              go_simp
              refine (LA.out _).mono ?_
              rintro e v9 ⟨rfl, hc⟩
              have D9 := Lib.hid (C9.out.trans hc)
              clear hc C9
              have C9 := D9
              clear D9
              refine hK.out _ _ C9.out (fun hHeld => ?_)
              clear hK K
              try simp only [Act.put, List.setIfInBounds_toArray, List.set_cons_zero, List.set_cons_succ]
              refine step_yes 14 29 ?_ (by assumption) rfl rfl (by kernel_rfl) (by kernel_rfl) (by kernel_rfl) (fun _ _ _ h => h) (by rfl) ?_ ?_
              rotate_left
              · (intro w hSw; (try dsimp only at hSw); go_simp; try with_reducible rfl)
              try simp only [Act.put, List.setIfInBounds_toArray, List.set_cons_zero, List.set_cons_succ]
              refine step_yes 15 30 ?_ (by assumption) rfl rfl (by kernel_rfl) (by kernel_rfl) (by kernel_rfl) (fun _ _ _ h => h) (by rfl) ?_ ?_
              rotate_left
              · (intro w hSw; (try dsimp only at hSw); go_simp; try with_reducible rfl)
              try simp only [Act.put, List.setIfInBounds_toArray, List.set_cons_zero, List.set_cons_succ]
              refine step_yes 16 31 ?_ (by assumption) rfl rfl (by kernel_rfl) (by kernel_rfl) (by kernel_rfl) (fun _ _ _ h => h) (by rfl) ?_ ?_
              rotate_left
              · (intro w hSw; (try dsimp only at hSw); go_simp; try with_reducible rfl)
              try simp only [Act.put, List.setIfInBounds_toArray, List.set_cons_zero, List.set_cons_succ]
              have hv2 : ¬ okFrom none xs = true := by rw [HOK.out]; simp
              have HV2 : V = 2 := HV.out.trans (if_neg hv2)
              subst HV2
              clear hv2
              refine wpAnyH_done (by kernel_rfl) ?_ _
              have CE := Lib.hid (CW.out.trans C9.out)
              go_wp2
              go_ret
              exact ⟨rfl, CE.out⟩
        · have hd : decide (FineS x.1 x.2.1 x.2.2) = false := decide_eq_false hf
          rw [hd] at LS HOK
          clear hd hf
          refine wp_region_held_drew (S := fun w' => Chg [] w2 w') (by kernel_rfl) (Chg.refl [] w2).drew (fun hHeld => ?_)
          refine step_yes 0 15 ?_ (by assumption) rfl rfl (by kernel_rfl) (by kernel_rfl) (by kernel_rfl) (fun _ _ _ h => h) (by rfl) ?_ ?_
          rotate_left
          · (intro w hSw; (try dsimp only at hSw); have hq := HC0.out _ hSw; obtain ⟨q0, q1, q2⟩ := hq; go_simp; try with_reducible rfl)
          try simp only [Act.put, List.setIfInBounds_toArray, List.set_cons_zero, List.set_cons_succ]
          refine wpAnyH_ready (rs := [1]) (by kernel_rfl) (by simp) ?_
          refine AllReadyH.cons rfl (fun K hK => ?_) AllReadyH.nil
          replace hK := Lib.hid hK
          go_simp
          refine (LS.out _).mono ?_
          rintro e w9 ⟨rfl, hc⟩
          have C9 := Lib.hid (hHeld.trans hc)
          clear hc hHeld
          refine hK.out _ _ C9.out (fun hHeld => ?_)
          clear hK K
          try simp only [Act.put, List.setIfInBounds_toArray, List.set_cons_zero, List.set_cons_succ]
          refine step_yes 2 17 ?_ (by assumption) rfl rfl (by kernel_rfl) (by kernel_rfl) (by kernel_rfl) (fun _ _ _ h => h) (by rfl) ?_ ?_
          rotate_left
          · (intro w hSw; (try dsimp only at hSw); go_simp; try with_reducible rfl)
          try simp only [Act.put, List.setIfInBounds_toArray, List.set_cons_zero, List.set_cons_succ]
          refine step_yes 3 18 ?_ (by assumption) rfl rfl (by kernel_rfl) (by kernel_rfl) (by kernel_rfl) (fun _ _ _ h => h) (by rfl) ?_ ?_
          rotate_left
          · (intro w hSw; (try dsimp only at hSw); go_simp; try with_reducible rfl)
          try simp only [Act.put, List.setIfInBounds_toArray, List.set_cons_zero, List.set_cons_succ]
          refine step_no 4 19 (by assumption) rfl rfl (by kernel_rfl) (by kernel_rfl) (by kernel_rfl) (fun _ _ _ h => h) (by rfl) ?_
          try simp only [Act.put, List.setIfInBounds_toArray, List.set_cons_zero, List.set_cons_succ]
          refine step_no 5 20 (by assumption) rfl rfl (by kernel_rfl) (by kernel_rfl) (by kernel_rfl) (fun _ _ _ h => h) (by rfl) ?_
          try simp only [Act.put, List.setIfInBounds_toArray, List.set_cons_zero, List.set_cons_succ]
          refine step_no 6 21 (by assumption) rfl rfl (by kernel_rfl) (by kernel_rfl) (by kernel_rfl) (fun _ _ _ h => h) (by rfl) ?_
          try simp only [Act.put, List.setIfInBounds_toArray, List.set_cons_zero, List.set_cons_succ]
          refine step_no 7 22 (by assumption) rfl rfl (by kernel_rfl) (by kernel_rfl) (by kernel_rfl) (fun _ _ _ h => h) (by rfl) ?_
          try simp only [Act.put, List.setIfInBounds_toArray, List.set_cons_zero, List.set_cons_succ]
          refine step_no 8 23 (by assumption) rfl rfl (by kernel_rfl) (by kernel_rfl) (by kernel_rfl) (fun _ _ _ h => h) (by rfl) ?_
          try simp only [Act.put, List.setIfInBounds_toArray, List.set_cons_zero, List.set_cons_succ]
          refine step_no 9 24 (by assumption) rfl rfl (by kernel_rfl) (by kernel_rfl) (by kernel_rfl) (fun _ _ _ h => h) (by rfl) ?_
          try simp only [Act.put, List.setIfInBounds_toArray, List.set_cons_zero, List.set_cons_succ]
          refine step_no 10 25 (by assumption) rfl rfl (by kernel_rfl) (by kernel_rfl) (by kernel_rfl) (fun _ _ _ h => h) (by rfl) ?_
          try simp only [Act.put, List.setIfInBounds_toArray, List.set_cons_zero, List.set_cons_succ]
          refine step_no 11 26 (by assumption) rfl rfl (by kernel_rfl) (by kernel_rfl) (by kernel_rfl) (fun _ _ _ h => h) (by rfl) ?_
          try simp only [Act.put, List.setIfInBounds_toArray, List.set_cons_zero, List.set_cons_succ]
          refine step_no 12 27 (by assumption) rfl rfl (by kernel_rfl) (by kernel_rfl) (by kernel_rfl) (fun _ _ _ h => h) (by rfl) ?_
          try simp only [Act.put, List.setIfInBounds_toArray, List.set_cons_zero, List.set_cons_succ]
          refine step_no 13 28 (by assumption) rfl rfl (by kernel_rfl) (by kernel_rfl) (by kernel_rfl) (fun _ _ _ h => h) (by rfl) ?_
          try simp only [Act.put, List.setIfInBounds_toArray, List.set_cons_zero, List.set_cons_succ]
          refine step_no 14 29 (by assumption) rfl rfl (by kernel_rfl) (by kernel_rfl) (by kernel_rfl) (fun _ _ _ h => h) (by rfl) ?_
          try simp only [Act.put, List.setIfInBounds_toArray, List.set_cons_zero, List.set_cons_succ]
          refine step_no 15 30 (by assumption) rfl rfl (by kernel_rfl) (by kernel_rfl) (by kernel_rfl) (fun _ _ _ h => h) (by rfl) ?_
          try simp only [Act.put, List.setIfInBounds_toArray, List.set_cons_zero, List.set_cons_succ]
          refine step_yes 16 31 ?_ (by assumption) rfl rfl (by kernel_rfl) (by kernel_rfl) (by kernel_rfl) (fun _ _ _ h => h) (by rfl) ?_ ?_
          rotate_left
          · (intro w hSw; (try dsimp only at hSw); go_simp; try with_reducible rfl)
          try simp only [Act.put, List.setIfInBounds_toArray, List.set_cons_zero, List.set_cons_succ]
          have hv2 : ¬ okFrom none xs = true := by rw [HOK.out]; simp
          have HV2 : V = 2 := HV.out.trans (if_neg hv2)
          subst HV2
          clear hv2
          refine wpAnyH_done (by kernel_rfl) ?_ _
          have CE := Lib.hid (CW.out.trans C9.out)
          go_wp2
          go_ret
          exact ⟨rfl, CE.out⟩
      · obtain rfl : k = xs.length := by omega
        have hv := HI.out.2.1
        rw [List.drop_length] at hv
        have hv2 : okFrom none xs = true := by rw [hv]; cases prevS xs xs.length <;> rfl
        have HV2 : V = 0 := HV.out.trans (if_pos hv2)
        subst HV2
        clear hv hv2
        go_wp2
        go_ret
        exact ⟨rfl, HI.out.1⟩
end
section
set_option linter.unusedSimpArgs false
set_option linter.unusedVariables false

theorem ok_some : ∀ (l : List Sp) (y : Sp), y.2.1 ≤ y.2.2 → okFrom (some y) l = true → (∀ x ∈ l, FineS x.1 x.2.1 x.2.2 ∧ Ap y x) ∧ l.Pairwise Ap
  | [], y, _, _ => ⟨by simp, List.Pairwise.nil⟩
  | x :: l, y, hy, h => by
    simp only [okFrom, Bool.and_eq_true, decide_eq_true_eq] at h
    obtain ⟨⟨h1, h2⟩, h3⟩ := h
    have ox : x.2.1 ≤ x.2.2 := h1.2.2.2.1
    obtain ⟨a, b⟩ := ok_some l x ox h3
    have hyx : Ap y x := h2
    refine ⟨fun z hz => ?_, List.pairwise_cons.2 ⟨fun z hz => (a z hz).2, b⟩⟩
    rcases List.mem_cons.1 hz with rfl | q
    · exact ⟨h1, hyx⟩
    · exact ⟨(a z q).1, hyx.trans (a z q).2 ox⟩
theorem some_ok : ∀ (l : List Sp) (y : Sp), (∀ x ∈ l, FineS x.1 x.2.1 x.2.2 ∧ Ap y x) → l.Pairwise Ap → okFrom (some y) l = true
  | [], y, _, _ => rfl
  | x :: l, y, h, hp => by
    have hp' := List.pairwise_cons.1 hp
    simp only [okFrom, Bool.and_eq_true, decide_eq_true_eq]
    exact ⟨⟨(h x (by simp)).1, (h x (by simp)).2⟩, some_ok l x (fun z hz => ⟨(h z (by simp [hz])).1, hp'.1 z hz⟩) hp'.2⟩
theorem wf_of_chk {xs : List Sp} (h : chkS xs = 0) : WfC xs ∧ xs.length ≤ 4000 := by
  unfold chkS at h
  split at h
  · rename_i hc
    refine ⟨?_, hc.1⟩
    cases xs with
    | nil => exact ⟨norm_nil, by simp⟩
    | cons x l =>
      have h2 := hc.2
      simp only [okFrom, Bool.and_eq_true, decide_eq_true_eq] at h2
      obtain ⟨h1, h3⟩ := h2
      have ox : x.2.1 ≤ x.2.2 := h1.2.2.2.1
      obtain ⟨a, b⟩ := ok_some l x ox h3
      have fine : ∀ z ∈ x :: l, FineS z.1 z.2.1 z.2.2 := fun z hz => by
        rcases List.mem_cons.1 hz with rfl | q
        · exact h1
        · exact (a z q).1
      exact ⟨⟨fun z hz => (fine z hz).2.2.2.1, List.pairwise_cons.2 ⟨fun z hz => (a z hz).2, b⟩⟩, fun z hz => by have := fine z hz; unfold FineS at this; omega⟩
  · exact absurd h (by decide)
theorem chk_of_wf {xs : List Sp} (h : WfC xs) (hl : xs.length ≤ 4000) : chkS xs = 0 := by
  unfold chkS
  rw [if_pos]
  refine ⟨hl, ?_⟩
  have fine : ∀ z ∈ xs, FineS z.1 z.2.1 z.2.2 := fun z hz => by
    have := h.2 z hz
    have o := h.1.1 z hz
    unfold FineS SpOk at *
    omega
  cases xs with
  | nil => rfl
  | cons x l =>
    have hp := List.pairwise_cons.1 h.1.2
    simp only [okFrom, Bool.and_eq_true, decide_eq_true_eq]
    exact ⟨fine x (by simp), some_ok l x (fun z hz => ⟨fine z (by simp [hz]), hp.1 z hz⟩) hp.2⟩
theorem chk_two (xs : List Sp) : chkS xs = 0 ∨ chkS xs = 2 := by unfold chkS; split <;> simp
end
end
section
section
open Go.RowKit Go.Lib
set_option linter.unusedSimpArgs false
set_option linter.unusedVariables false


def cmpS (x : Sp) (n s : Int) : Int := if x.1 < n ∨ x.1 = n ∧ x.2.2 < s then -1 else if n < x.1 ∨ s < x.2.1 then 1 else 0
theorem cmp_zero {x : Sp} {n s : Int} : cmpS x n s = 0 ↔ InS x n s := by
  unfold cmpS InS
  split
  · constructor
    · intro h; exact absurd h (by decide)
    · intro h; omega
  · split
    · constructor
      · intro h; exact absurd h (by decide)
      · intro h; omega
    · constructor
      · intro _; omega
      · intro _; rfl
theorem cmp_neg {x : Sp} {n s : Int} : cmpS x n s < 0 ↔ x.1 < n ∨ x.1 = n ∧ x.2.2 < s := by
  unfold cmpS
  split
  · rename_i h; exact ⟨fun _ => h, fun _ => by decide⟩
  · rename_i h
    split <;> exact ⟨fun q => absurd q (by decide), fun q => absurd q h⟩
theorem norm_at {l : List Sp} (h : Norm l) {p q : Nat} {x y : Sp} (hx : l[p]? = some x) (hy : l[q]? = some y) (hl : p < q) : Ap x y ∧ SpOk x ∧ SpOk y := by
  have hp := List.getElem?_eq_some_iff.1 hx
  have hq := List.getElem?_eq_some_iff.1 hy
  obtain ⟨l1, e1⟩ := hp
  obtain ⟨l2, e2⟩ := hq
  refine ⟨?_, h.1 x (List.mem_of_getElem? hx), h.1 y (List.mem_of_getElem? hy)⟩
  have := List.pairwise_iff_getElem.1 h.2 p q l1 l2 hl
  rw [e1, e2] at this
  exact this
def LoS (xs : List Sp) (n s : Int) (i : Nat) : Prop := ∀ p x, xs[p]? = some x → p < i → cmpS x n s < 0
def HiS (xs : List Sp) (n s : Int) (j : Nat) : Prop := ∀ p x, xs[p]? = some x → j ≤ p → ¬ cmpS x n s < 0
theorem lo_next {xs : List Sp} {n s : Int} (hn : Norm xs) {h : Nat} {x : Sp} (hx : xs[h]? = some x) (hc : cmpS x n s < 0) : LoS xs n s (h + 1) := by
  intro p y hy hp
  by_cases e : p = h
  · subst e; rw [hx] at hy; cases hy; exact hc
  · obtain ⟨a, o1, o2⟩ := norm_at hn hy hx (by omega)
    rw [cmp_neg] at hc ⊢
    unfold Ap SpOk at *
    omega
theorem hi_next {xs : List Sp} {n s : Int} (hn : Norm xs) {h : Nat} {x : Sp} (hx : xs[h]? = some x) (hc : ¬ cmpS x n s < 0) : HiS xs n s h := by
  intro p y hy hp
  by_cases e : p = h
  · subst e; rw [hx] at hy; cases hy; exact hc
  · obtain ⟨a, o1, o2⟩ := norm_at hn hx hy (by omega)
    rw [cmp_neg] at hc ⊢
    unfold Ap SpOk at *
    omega
theorem found_yes {xs : List Sp} {n s : Int} {i : Nat} {x : Sp} (hx : xs[i]? = some x) (hc : cmpS x n s = 0) : Mem xs n s := ⟨x, List.mem_of_getElem? hx, cmp_zero.1 hc⟩
theorem found_no {xs : List Sp} {n s : Int} (hn : Norm xs) {i : Nat} (hl : LoS xs n s i) (hh : HiS xs n s i) (hx : ∀ x, xs[i]? = some x → cmpS x n s ≠ 0) : ¬ Mem xs n s := by
  rintro ⟨y, hy, hi⟩
  obtain ⟨q, hq, rfl⟩ := List.getElem_of_mem hy
  have hz : cmpS xs[q] n s = 0 := cmp_zero.2 hi
  have hqe := List.getElem?_eq_getElem hq
  rcases Nat.lt_trichotomy q i with h | h | h
  · have := hl q _ hqe h; omega
  · subst h; exact hx _ hqe hz
  · have hie := List.getElem?_eq_getElem (show i < xs.length by omega)
    obtain ⟨a, o1, o2⟩ := norm_at hn hie hqe h
    have := hh i _ hie (Nat.le_refl _)
    rw [cmp_neg] at this
    unfold Ap SpOk InS at *
    omega
set_option maxRecDepth 100000 in
set_option maxHeartbeats 4000000 in
theorem has1_any (w : World) (x : Sp) (n s : Int) : Calls Tryz.prog 118 #[.agg #[.int .i64 x.1, .int .i64 x.2.1, .int .i64 x.2.2], .agg #[.int .i64 n, .int .i64 s]] w fun e w' => e = .returned (.int .i64 (cmpS x n s)) ∧ Chg [] w w' := by
  obtain ⟨w1, hw1, c1, b0, b1⟩ := news2 w (.cells #[.int .i64 x.1, .int .i64 x.2.1, .int .i64 x.2.2] 62) (.cells #[.int .i64 n, .int .i64 s] 23)
  have W1 := Lib.hid hw1
  have C1 := Lib.hid c1
  have y0 := cell_of b0 0
  have y1 := cell_of b0 1
  have y2 := cell_of b0 2
  have z0 := cell_of b1 0
  have z1 := cell_of b1 1
  simp only [List.getElem?_toArray, List.getElem?_cons_succ, List.getElem?_cons_zero] at y0 y1 y2 z0 z1
  clear hw1 c1 b0 b1
  have fin : ∀ v, cmpS x n s = v → Calls Tryz.prog 118 #[.agg #[.int .i64 x.1, .int .i64 x.2.1, .int .i64 x.2.2], .agg #[.int .i64 n, .int .i64 s]] w (fun e w' => e = .returned (.int .i64 v) ∧ Chg [] w w') → Calls Tryz.prog 118 #[.agg #[.int .i64 x.1, .int .i64 x.2.1, .int .i64 x.2.2], .agg #[.int .i64 n, .int .i64 s]] w fun e w' => e = .returned (.int .i64 (cmpS x n s)) ∧ Chg [] w w' := fun v hv h => hv ▸ h
  obtain ⟨x1, x2, x3⟩ := x
  dsimp only at *
  rcases Int.lt_trichotomy x1 n with h | h | h
  · have f1 : x1 < n := h
    refine fin (-1) (by unfold cmpS; exact if_pos (.inl h)) ?_
    clear fin
    go_enter Tryz.func118, Tryz.ntmps118
    go_upto_region 1 with fail
    rw [← W1.out]
    generalize w.heap.size = g0 at *
    go_wp2
    go_ret
    exact ⟨rfl, C1.out⟩
  · subst h
    have f0 : ¬ x1 < x1 := by omega
    have f3 : ((x1 == x1) : Bool) = true := by simp
    by_cases h2 : x3 < s
    · skip
      refine fin (-1) (by unfold cmpS; exact if_pos (.inr ⟨rfl, h2⟩)) ?_
      clear fin
      go_enter Tryz.func118, Tryz.ntmps118
      go_upto_region 1 with fail
      rw [← W1.out]
      generalize w.heap.size = g0 at *
      go_wp2
      go_ret
      exact ⟨rfl, C1.out⟩
    by_cases h3 : s < x2
    · skip
      refine fin (1) (by unfold cmpS; rw [if_neg (by simp only; omega)]; exact if_pos (.inr h3)) ?_
      clear fin
      go_enter Tryz.func118, Tryz.ntmps118
      go_upto_region 1 with fail
      rw [← W1.out]
      generalize w.heap.size = g0 at *
      go_wp2
      go_ret
      exact ⟨rfl, C1.out⟩
    refine fin (0) (by unfold cmpS; rw [if_neg (by simp only; omega)]; exact if_neg (by simp only; omega)) ?_
    clear fin
    go_enter Tryz.func118, Tryz.ntmps118
    go_upto_region 1 with fail
    rw [← W1.out]
    generalize w.heap.size = g0 at *
    go_wp2
    go_ret
    exact ⟨rfl, C1.out⟩
  · have f1 : ¬ x1 < n := by omega
    have f3 : ((x1 == n) : Bool) = false := by simp; omega
    refine fin (1) (by unfold cmpS; rw [if_neg (by simp only; omega)]; exact if_pos (.inl h)) ?_
    clear fin
    go_enter Tryz.func118, Tryz.ntmps118
    go_upto_region 1 with fail
    rw [← W1.out]
    generalize w.heap.size = g0 at *
    go_wp2
    go_ret
    exact ⟨rfl, C1.out⟩
end
section
open Go.RowKit Go.Lib
set_option linter.unusedSimpArgs false
set_option linter.unusedVariables false


set_option maxRecDepth 100000 in
set_option maxHeartbeats 8000000 in
theorem binspan_any (w : World) (A : Option Addr) (c : Nat) (xs : List Sp) (n s : Int) (h : RdK spanTy w A xs.length xs) (hn : Norm xs) (hl : xs.length ≤ 4000) :
    Calls Tryz.prog 117 #[.slice A xs.length c, .agg #[.int .i64 n, .int .i64 s], .func (.func 118) #[] #[]] w fun e w' => ∃ i : Int, e = .returned (.tuple #[.int .i64 i, .bool (decide (Mem xs n s))]) ∧ Chg [] w w' := by
  have HX := Lib.hid h
  have HNM := Lib.hid hn
  have HL := Lib.hid hl
  clear h hn hl
  obtain ⟨w1, hw1, c1, b1⟩ := news1 w (.cells #[.int .i64 n, .int .i64 s] 23)
  have W1 := Lib.hid hw1
  have C1 := Lib.hid c1
  have B1 := Lib.hid b1
  clear hw1 c1 b1
  go_enter Tryz.func117, Tryz.ntmps117
  go_upto_region 2 with fail
  rw [← W1.out]
  generalize w.heap.size = g0 at *
  clear W1
  go_wp2
  go_loopw [9, 10] (fun v9 v10 wr => ∃ (i j : Nat), i ≤ j ∧ j ≤ xs.length ∧ v9 = .int .i64 (i : Int) ∧ v10 = .int .i64 (j : Int) ∧ Hid (LoS xs n s i ∧ HiS xs n s j) ∧ Hid (Chg [] w1 wr)) (fun v9 v10 _ => (RowKit.intOf v10).toNat - (RowKit.intOf v9).toNat)
  case atStart => exact ⟨0, xs.length, Nat.zero_le _, Nat.le_refl _, rfl, rfl, Lib.hid ⟨fun p x _ h => absurd h (by omega), fun p x hx h => absurd ((List.getElem?_eq_some_iff.1 hx).1) (by omega)⟩, Chg.refl _ _⟩
  case round =>
    obtain ⟨i, j, hij, hj, rfl, rfl, HI, HC⟩ := hrel
    have i0 : (0 : Int) ≤ (i : Int) := by omega
    have hl := HL.out
    have i1 : IntKind.i64.wrap ((i : Int) + (j : Int)) = ((i + j : Nat) : Int) := by rw [IntWalk.i64_in _ (by omega)]; omega
    by_cases hlt : i < j
    · have i2 : (i : Int) < (j : Int) := by omega
      go_upto_region 5 with fail
      obtain ⟨k, hk⟩ : ∃ k : Nat, k = (i + j) / 2 := ⟨_, rfl⟩
      have e1 : ((i : Int) + (j : Int)) / 2 = (k : Int) := by omega
      rw [e1]
      have hk1 : i ≤ k ∧ k < j := by omega
      clear hk e1 i1 i2
      obtain ⟨x, hx⟩ : ∃ x, xs[k]? = some x := ⟨_, List.getElem?_eq_getElem (by omega)⟩
      have R4 := (HX.out.chg C1.out (by simp)).chg HC.out (by simp)
      obtain ⟨g, o, eA, _⟩ := R4.line (by omega)
      subst eA
      obtain ⟨q0, q1, q2⟩ := spanCells R4 hx
      have b4 := HC.out.at_ B1.out (by simp)
      have d0 := cell_of b4 0
      have d1 := cell_of b4 1
      simp only [List.getElem?_toArray, List.getElem?_cons_succ, List.getElem?_cons_zero] at d0 d1
      have k0 : (0 : Int) ≤ (k : Int) := by omega
      have k1 : (k : Int) < (xs.length : Int) := by omega
      have HX5 := Lib.hid hx
      clear R4 b4 hx
      refine wp_region_held_drew (S := fun w' => w'.cell? ⟨g, o + k * 3, none⟩ = some (.int .i64 x.1) ∧ w'.cell? ⟨g, o + k * 3 + 1, none⟩ = some (.int .i64 x.2.1) ∧ w'.cell? ⟨g, o + k * 3 + 2, none⟩ = some (.int .i64 x.2.2) ∧ w'.cell? ⟨g0, 0, none⟩ = some (.int .i64 n) ∧ w'.cell? ⟨g0, 1, none⟩ = some (.int .i64 s)) (by kernel_rfl) ⟨q0, q1, q2, d0, d1⟩ (fun hHeld => ?_)
      have CD := Lib.hid (Chg.refl [] wr).drew
      have HH := Lib.hid (fun (w' : World) (hc : Chg [] wr.drew w') => (⟨(CD.out.trans hc).cell q0 (by simp), (CD.out.trans hc).cell q1 (by simp), (CD.out.trans hc).cell q2 (by simp), (CD.out.trans hc).cell d0 (by simp), (CD.out.trans hc).cell d1 (by simp)⟩ : w'.cell? ⟨g, o + k * 3, none⟩ = some (.int .i64 x.1) ∧ w'.cell? ⟨g, o + k * 3 + 1, none⟩ = some (.int .i64 x.2.1) ∧ w'.cell? ⟨g, o + k * 3 + 2, none⟩ = some (.int .i64 x.2.2) ∧ w'.cell? ⟨g0, 0, none⟩ = some (.int .i64 n) ∧ w'.cell? ⟨g0, 1, none⟩ = some (.int .i64 s)))
      clear q0 q1 q2 d0 d1
      generalize wr.drew = wd at *
      refine sy 0 24 rfl rfl ?_
      try simp only [Act.put, sA, s0, s1]
      refine sy 1 25 rfl rfl ?_
      try simp only [Act.put, sA, s0, s1]
      refine sy 2 26 rfl rfl ?_
      try simp only [Act.put, sA, s0, s1]
      refine sy 3 27 rfl rfl ?_
      try simp only [Act.put, sA, s0, s1]
      refine sy 4 28 rfl rfl ?_ (hy := by (intro w hSw; (try dsimp only at hSw); obtain ⟨q0, q1, q2, q3, q4⟩ := hSw; go_simp; try with_reducible rfl))
      try simp only [Act.put, sA, s0, s1]
      refine sy 5 29 rfl rfl ?_ (hy := by (intro w hSw; (try dsimp only at hSw); obtain ⟨q0, q1, q2, q3, q4⟩ := hSw; go_simp; try with_reducible rfl))
      try simp only [Act.put, sA, s0, s1]
      refine wpAnyH_ready (rs := [6]) (by kernel_rfl) (by simp) ?_
      refine AllReadyH.cons rfl (fun K hK => ?_) AllReadyH.nil
      replace hK := Lib.hid hK
      go_simp
      refine (has1_any wd x n s).mono ?_
      rintro r w6 ⟨rfl, h6⟩
      have C6 := Lib.hid h6
      clear h6 hHeld
      refine hK.out _ _ (HH.out w6 C6.out) (fun hHeld => ?_)
      clear hK K
      try simp only [Act.put, sA, s0, s1]
      refine sy 7 31 rfl rfl ?_
      try simp only [Act.put, sA, s0, s1]
      refine wpAnyH_done (by kernel_rfl) ?_ _
      clear hHeld HH
      have CE := Lib.hid (HC.out.trans (CD.out.trans C6.out))
      by_cases hneg : cmpS x n s < 0
      · have LO := Lib.hid (lo_next HNM.out HX5.out hneg)
        have dn1 : decide (cmpS x n s < 0) = true := decide_eq_true hneg
        have w1' : IntKind.i64.wrap ((k : Int) + 1) = (k : Int) + 1 := IntWalk.i64_in _ (by omega)
        go_wp2
        go_round
        case rel => exact ⟨k + 1, j, by omega, hj, by go_num, rfl, Lib.hid ⟨LO.out, HI.out.2⟩, CE.out⟩
        case measure => simp [RowKit.intOf]; omega
      · have HIN := Lib.hid (hi_next HNM.out HX5.out hneg)
        have dn1 : decide (cmpS x n s < 0) = false := decide_eq_false hneg
        go_wp2
        go_round
        case rel => exact ⟨i, k, by omega, by omega, rfl, rfl, Lib.hid ⟨HI.out.1, HIN.out⟩, CE.out⟩
        case measure => simp [RowKit.intOf]; omega
    · obtain rfl : i = j := by omega
      have i2 : ¬ (i : Int) < (i : Int) := by omega
      by_cases hin : i < xs.length
      · have k1 : (i : Int) < (xs.length : Int) := by omega
        have k2 : decide ((i : Int) < (xs.length : Int)) = true := by simp; omega
        have k3 : decide (i < xs.length) = true := by simp; omega
        obtain ⟨x, hx⟩ : ∃ x, xs[i]? = some x := ⟨_, List.getElem?_eq_getElem hin⟩
        have R4 := (HX.out.chg C1.out (by simp)).chg HC.out (by simp)
        obtain ⟨g, o, eA, _⟩ := R4.line (by omega)
        subst eA
        obtain ⟨q0, q1, q2⟩ := spanCells R4 hx
        have b4 := HC.out.at_ B1.out (by simp)
        have d0 := cell_of b4 0
        have d1 := cell_of b4 1
        simp only [List.getElem?_toArray, List.getElem?_cons_succ, List.getElem?_cons_zero] at d0 d1
        have ANS : Hid (decide (Mem xs n s) = decide (cmpS x n s = 0)) := Lib.hid (by
          by_cases hz : cmpS x n s = 0
          · rw [decide_eq_true (found_yes hx hz), decide_eq_true hz]
          · rw [decide_eq_false (found_no HNM.out HI.out.1 HI.out.2 (fun y hy => by rw [hx] at hy; cases hy; exact hz)), decide_eq_false hz])
        clear R4 b4 hx
        go_upto_region 8 with fail
        refine wp_region_held_drew (S := fun w' => w'.cell? ⟨g, o + i * 3, none⟩ = some (.int .i64 x.1) ∧ w'.cell? ⟨g, o + i * 3 + 1, none⟩ = some (.int .i64 x.2.1) ∧ w'.cell? ⟨g, o + i * 3 + 2, none⟩ = some (.int .i64 x.2.2) ∧ w'.cell? ⟨g0, 0, none⟩ = some (.int .i64 n) ∧ w'.cell? ⟨g0, 1, none⟩ = some (.int .i64 s)) (by kernel_rfl) ⟨q0, q1, q2, d0, d1⟩ (fun hHeld => ?_)
        have CD := Lib.hid (Chg.refl [] wr).drew
        have HH := Lib.hid (fun (w' : World) (hc : Chg [] wr.drew w') => (⟨(CD.out.trans hc).cell q0 (by simp), (CD.out.trans hc).cell q1 (by simp), (CD.out.trans hc).cell q2 (by simp), (CD.out.trans hc).cell d0 (by simp), (CD.out.trans hc).cell d1 (by simp)⟩ : w'.cell? ⟨g, o + i * 3, none⟩ = some (.int .i64 x.1) ∧ w'.cell? ⟨g, o + i * 3 + 1, none⟩ = some (.int .i64 x.2.1) ∧ w'.cell? ⟨g, o + i * 3 + 2, none⟩ = some (.int .i64 x.2.2) ∧ w'.cell? ⟨g0, 0, none⟩ = some (.int .i64 n) ∧ w'.cell? ⟨g0, 1, none⟩ = some (.int .i64 s)))
        clear q0 q1 q2 d0 d1 i2
        generalize wr.drew = wd at *
        refine sy 0 35 rfl rfl ?_
        try simp only [Act.put, sA, s0, s1]
        refine sy 1 36 rfl rfl ?_
        try simp only [Act.put, sA, s0, s1]
        refine sy 2 37 rfl rfl ?_
        try simp only [Act.put, sA, s0, s1]
        refine sy 3 38 rfl rfl ?_
        try simp only [Act.put, sA, s0, s1]
        refine sy 4 39 rfl rfl ?_
        try simp only [Act.put, sA, s0, s1]
        refine sy 5 40 rfl rfl ?_
        try simp only [Act.put, sA, s0, s1]
        refine sy 6 41 rfl rfl ?_
        try simp only [Act.put, sA, s0, s1]
        refine sy 7 42 rfl rfl ?_
        try simp only [Act.put, sA, s0, s1]
        refine sy 8 43 rfl rfl ?_
        try simp only [Act.put, sA, s0, s1]
        refine sy 9 44 rfl rfl ?_ (hy := by (intro w hSw; (try dsimp only at hSw); obtain ⟨q0, q1, q2, q3, q4⟩ := hSw; go_simp; try with_reducible rfl))
        try simp only [Act.put, sA, s0, s1]
        refine sy 10 45 rfl rfl ?_ (hy := by (intro w hSw; (try dsimp only at hSw); obtain ⟨q0, q1, q2, q3, q4⟩ := hSw; go_simp; try with_reducible rfl))
        try simp only [Act.put, sA, s0, s1]
        refine wpAnyH_ready (rs := [11]) (by kernel_rfl) (by simp) ?_
        refine AllReadyH.cons rfl (fun K hK => ?_) AllReadyH.nil
        replace hK := Lib.hid hK
        go_simp
        refine (has1_any wd x n s).mono ?_
        rintro r w6 ⟨rfl, h6⟩
        have C6 := Lib.hid h6
        clear h6 hHeld
        refine hK.out _ _ (HH.out w6 C6.out) (fun hHeld => ?_)
        clear hK K
        try simp only [Act.put, sA, s0, s1]
        refine sy 12 47 rfl rfl ?_
        try simp only [Act.put, sA, s0, s1]
        refine sy 13 48 rfl rfl ?_
        try simp only [Act.put, sA, s0, s1]
        refine sy 14 6 rfl rfl ?_
        try simp only [Act.put, sA, s0, s1]
        refine sy 15 7 rfl rfl ?_
        try simp only [Act.put, sA, s0, s1]
        refine wpAnyH_done (by kernel_rfl) ?_ _
        clear hHeld HH
        have CE := Lib.hid (C1.out.trans (HC.out.trans (CD.out.trans C6.out)))
        by_cases hz : cmpS x n s = 0
        · have AN : decide (Mem xs n s) = true := by rw [ANS.out, decide_eq_true hz]
          have dz : ((cmpS x n s == 0) : Bool) = true := by simpa using hz
          clear ANS hz
          go_wp2
          go_ret2
          (first | exact ⟨(i : Int), by show Ending.returned (.tuple #[.int .i64 (i : Int), .bool (cmpS x n s == 0)]) = _; rw [dz, AN], CE.out⟩ | exact ⟨⟨(i : Int), by show Ending.returned (.tuple #[.int .i64 (i : Int), .bool false]) = _; first | rfl | rw [AN]⟩, CE.out⟩)
        · have AN : decide (Mem xs n s) = false := by rw [ANS.out, decide_eq_false hz]
          have dz : ((cmpS x n s == 0) : Bool) = false := by simpa using hz
          clear ANS hz
          go_wp2
          go_ret2
          (first | exact ⟨(i : Int), by show Ending.returned (.tuple #[.int .i64 (i : Int), .bool (cmpS x n s == 0)]) = _; rw [dz, AN], CE.out⟩ | exact ⟨⟨(i : Int), by show Ending.returned (.tuple #[.int .i64 (i : Int), .bool false]) = _; first | rfl | rw [AN]⟩, CE.out⟩)
      · have k1 : ¬ (i : Int) < (xs.length : Int) := by omega
        have k2 : decide ((i : Int) < (xs.length : Int)) = false := by simp; omega
        have k3 : decide (i < xs.length) = false := by simp; omega
        have ANS : Hid (decide (Mem xs n s) = false) := Lib.hid (decide_eq_false (found_no HNM.out HI.out.1 HI.out.2 (fun y hy => absurd ((List.getElem?_eq_some_iff.1 hy).1) hin)))
        go_upto_region 8 with fail
        refine wp_region_held_drew (S := fun _ => True) (by kernel_rfl) trivial (fun hHeld => ?_)
        have CD := Lib.hid (Chg.refl [] wr).drew
        generalize wr.drew = wd at *
        clear i2
        refine sy 0 35 rfl rfl ?_ (hS := trivial)
        try simp only [Act.put, sA, s0, s1]
        refine sy 1 36 rfl rfl ?_ (hS := trivial)
        try simp only [Act.put, sA, s0, s1]
        refine sy 2 37 rfl rfl ?_ (hS := trivial)
        try simp only [Act.put, sA, s0, s1]
        refine sy 3 38 rfl rfl ?_ (hS := trivial)
        try simp only [Act.put, sA, s0, s1]
        refine sy 4 39 rfl rfl ?_ (hS := trivial)
        try simp only [Act.put, sA, s0, s1]
        refine sn 5 40 rfl rfl ?_ (hS := trivial)
        try simp only [Act.put, sA, s0, s1]
        refine sn 6 41 rfl rfl ?_ (hS := trivial)
        try simp only [Act.put, sA, s0, s1]
        refine sn 7 42 rfl rfl ?_ (hS := trivial)
        try simp only [Act.put, sA, s0, s1]
        refine sn 8 43 rfl rfl ?_ (hS := trivial)
        try simp only [Act.put, sA, s0, s1]
        refine sn 9 44 rfl rfl ?_ (hS := trivial)
        try simp only [Act.put, sA, s0, s1]
        refine sn 10 45 rfl rfl ?_ (hS := trivial)
        try simp only [Act.put, sA, s0, s1]
        refine sn 11 46 rfl rfl ?_ (hS := trivial)
        try simp only [Act.put, sA, s0, s1]
        refine sn 12 47 rfl rfl ?_ (hS := trivial)
        try simp only [Act.put, sA, s0, s1]
        refine sy 13 48 rfl rfl ?_ (hS := trivial)
        try simp only [Act.put, sA, s0, s1]
        refine sy 14 6 rfl rfl ?_ (hS := trivial)
        try simp only [Act.put, sA, s0, s1]
        refine sy 15 7 rfl rfl ?_ (hS := trivial)
        try simp only [Act.put, sA, s0, s1]
        refine wpAnyH_done (by kernel_rfl) ?_ _
        clear hHeld
        have CE := Lib.hid (C1.out.trans (HC.out.trans CD.out))
        have AN := ANS.out
        go_wp2
        go_ret2
        (first | exact ⟨(i : Int), by show Ending.returned (.tuple #[.int .i64 (i : Int), .bool (cmpS x n s == 0)]) = _; rw [dz, AN], CE.out⟩ | exact ⟨⟨(i : Int), by show Ending.returned (.tuple #[.int .i64 (i : Int), .bool false]) = _; first | rfl | rw [AN]⟩, CE.out⟩)
end
section
open Go.RowKit Go.Lib
set_option linter.unusedSimpArgs false
set_option linter.unusedVariables false


def hasE (xs : List Sp) (n s : Int) : Bool := decide (chkS xs = 0) && decide (Mem xs n s)
set_option maxRecDepth 100000 in
set_option maxHeartbeats 4000000 in
theorem has_any (w : World) (A : Option Addr) (c : Nat) (xs : List Sp) (n s : Int) (h : RdK spanTy w A xs.length xs) (hn : xs.length ≤ 140737488351232) :
    Calls Tryz.prog 68 #[.slice A xs.length c, .agg #[.int .i64 n, .int .i64 s]] w fun e w' => e = .returned (.bool (hasE xs n s)) ∧ Chg [] w w' := by
  obtain ⟨w0, hw0, c0, b0⟩ := news1 w (.cells #[.int .i64 n, .int .i64 s] 23)
  have W0 := Lib.hid hw0
  have C0 := Lib.hid c0
  have B0 := Lib.hid b0
  have H := Lib.hid (h.chg c0 (by simp))
  have HN := Lib.hid hn
  clear hw0 c0 b0 h hn
  rcases chk_two xs with e1 | e1
  · have eH : hasE xs n s = decide (Mem xs n s) := by unfold hasE; rw [decide_eq_true e1]; rfl
    rw [eH]
    have WF := Lib.hid (wf_of_chk e1)
    clear eH
    go_enter Tryz.func68, Tryz.ntmps68
    go_wp2_with fail
    rw [← W0.out]
    generalize w.heap.size = g0 at *
    refine (pacheck_any w0 A _ c xs H.out HN.out).mono ?_
    rintro e w1 ⟨rfl, h1⟩
    rw [e1]
    have C1 := Lib.hid h1
    have b1 := h1.at_ B0.out (by simp)
    have z0 := cell_of b1 0
    have z1 := cell_of b1 1
    simp only [List.getElem?_toArray, List.getElem?_cons_succ, List.getElem?_cons_zero] at z0 z1
    clear h1 b1
    go_wp2_with fail
    refine (binspan_any w1 A c xs n s (H.out.chg C1.out (by simp)) WF.out.1.1 WF.out.2).mono ?_
    rintro e w2 ⟨i, rfl, h2⟩
    have C2 := Lib.hid (C0.out.trans (C1.out.trans h2))
    clear h2 z0 z1
    generalize hbb : decide (Mem xs n s) = b at *
    have HBB := Lib.hid hbb
    clear hbb
    go_wp2
    go_ret
    have e9 := HBB.out
    subst e9
    exact ⟨rfl, C2.out⟩
  · have eH : hasE xs n s = false := by unfold hasE; rw [decide_eq_false (by omega)]; rfl
    rw [eH]
    clear eH
    go_enter Tryz.func68, Tryz.ntmps68
    go_wp2_with fail
    rw [← W0.out]
    generalize w.heap.size = g0 at *
    refine (pacheck_any w0 A _ c xs H.out HN.out).mono ?_
    rintro e w1 ⟨rfl, h1⟩
    rw [e1]
    have C1 := Lib.hid h1
    clear h1
    go_wp2
    go_ret
    exact ⟨rfl, C0.out.trans C1.out⟩
end
section
open Go.RowKit Go.Lib
set_option linter.unusedSimpArgs false
set_option linter.unusedVariables false


def lastL (node : Int) (xs : List Sp) : Int := xs.foldl (fun n x => if x.1 = node then x.2.2 else n) 0
theorem last_snoc (node : Int) (xs : List Sp) (x : Sp) : lastL node (xs ++ [x]) = if x.1 = node then x.2.2 else lastL node xs := by simp [lastL]
def Fin (xs : List Sp) : Prop := ∀ x ∈ xs, B3 x
theorem fin_of {xs : List Sp} (h : WfC xs) : Fin xs := fun x hx => by
  have := h.2 x hx
  have o := h.1.1 x hx
  unfold B3 SpOk at *
  omega
set_option maxRecDepth 100000 in
theorem laststep_any (w : World) (n : Int) (x : Sp) (b : Nat) (node : Int) (hb : w.heap[b]? = some (.cells #[.int .i64 node] 3 (0, 0))) : Calls Tryz.prog 102 #[.int .i64 n, .agg #[.int .i64 x.1, .int .i64 x.2.1, .int .i64 x.2.2], .pointer (some ⟨b, 0, none⟩)] w fun e w' => e = .returned (.int .i64 (if x.1 = node then x.2.2 else n)) ∧ Chg [] w w' := by
  obtain ⟨w1, hw1, c1, b1⟩ := news1 w (.cells #[.int .i64 x.1, .int .i64 x.2.1, .int .i64 x.2.2] 62)
  have z := cell_of (c1.at_ hb (by simp)) 0
  simp only [List.getElem?_toArray, List.getElem?_cons_zero] at z
  have W1 := Lib.hid hw1
  have C1 := Lib.hid c1
  have y0 := cell_of b1 0
  have y2 := cell_of b1 2
  simp only [List.getElem?_toArray, List.getElem?_cons_succ, List.getElem?_cons_zero] at y0 y2
  clear hw1 c1 b1 hb
  by_cases h : x.1 = node
  · rw [if_pos h]
    have q : ((x.1 == node) : Bool) = true := by simpa using h
    clear h
    go_enter Tryz.func102, Tryz.ntmps102
    go_upto_region 1 with fail
    rw [← W1.out]
    generalize w.heap.size = g0 at *
    go_wp2
    go_ret
    exact ⟨rfl, C1.out⟩
  · rw [if_neg h]
    have q : ((x.1 == node) : Bool) = false := by simpa using h
    clear h
    go_enter Tryz.func102, Tryz.ntmps102
    go_upto_region 1 with fail
    rw [← W1.out]
    generalize w.heap.size = g0 at *
    go_wp2
    go_ret
    exact ⟨rfl, C1.out⟩
set_option maxRecDepth 100000 in
set_option maxHeartbeats 4000000 in
theorem foldlast_any (w : World) (A : Option Addr) (c : Nat) (xs : List Sp) (b : Nat) (node : Int) (h : RdK spanTy w A xs.length xs) (hn : xs.length ≤ 4000) (hb : w.heap[b]? = some (.cells #[.int .i64 node] 3 (0, 0))) :
    Calls Tryz.prog 101 #[.slice A xs.length c, .int .i64 0, .func (.func 102) #[] #[.pointer (some ⟨b, 0, none⟩)]] w fun e w' => e = .returned (.int .i64 (lastL node xs)) ∧ Chg [] w w' := by
  have HX := Lib.hid h
  have HY := Lib.hid (hb)
  clear h hb
  go_enter Tryz.func101, Tryz.ntmps101
  go_wp2
  go_loopw [1, 11] (fun v1 v11 wr => ∃ (k : Nat), k ≤ xs.length ∧ v1 = .int .i64 (lastL node (xs.take k)) ∧ v11 = .int .i64 k ∧ Hid (Chg [] w wr)) (fun _ v11 _ => xs.length - (RowKit.intOf v11).toNat)
  case atStart => exact ⟨0, Nat.zero_le _, rfl, rfl, Chg.refl _ _⟩
  case round =>
    obtain ⟨k, hk, rfl, rfl, HI⟩ := hrel
    generalize wr = w4 at *
    clear wr
    by_cases hlt : k < xs.length
    · have ex := List.getElem?_eq_getElem hlt
      obtain ⟨g, o, eA, _⟩ := HX.out.line (by omega)
      subst eA
      have R4 := HX.out.chg HI.out (by simp)
      generalize hxx : xs[k] = x at *
      obtain ⟨q0, q1, q2⟩ := spanCells R4 ex
      have i0 : (0 : Int) ≤ (k : Int) := by omega
      have i1 : (k : Int) < (xs.length : Int) := by omega
      have e2 : lastL node (xs.take (k + 1)) = if x.1 = node then x.2.2 else lastL node (xs.take k) := by rw [List.take_add_one, ex]; exact last_snoc _ _ _
      have E2 := Lib.hid e2
      have EX := Lib.hid ex
      have LK := Lib.hid (show (xs.take k).length ≤ 4000 by rw [List.length_take]; omega)
      have SUB := Lib.hid (fun y (hy : y ∈ xs.take k) => List.mem_of_mem_take hy)
      clear R4 ex e2 hxx
      generalize hm : lastL node (xs.take k) = m at *
      have HM := Lib.hid hm
      clear hm
      obtain ⟨w5, hw5, c5, b5⟩ := news1 w4 (.cells #[.int .i64 x.1, .int .i64 x.2.1, .int .i64 x.2.2] 62)
      have W5 := Lib.hid hw5
      have B5 := Lib.hid b5
      have C5 := Lib.hid (HI.out.trans c5)
      clear hw5 c5
      go_upto_region 4 with fail
      rw [← W5.out]
      generalize w4.heap.size = g4 at *
      have y0 := cell_of B5.out 0
      have y1 := cell_of B5.out 1
      have y2 := cell_of B5.out 2
      simp only [List.getElem?_toArray, List.getElem?_cons_succ, List.getElem?_cons_zero] at y0 y1 y2
      go_wp2_with fail
      refine (laststep_any w5 m x b node (C5.out.at_ HY.out (by simp))).mono ?_
      rintro e w6 ⟨rfl, hcc⟩
      have CE := Lib.hid (C5.out.trans hcc)
      clear hcc q0 q1 q2 y0 y1 y2
      go_wp2
      go_round
      case rel => exact ⟨k + 1, by omega, by rw [E2.out], by go_num, CE.out⟩
      case measure => simp [RowKit.intOf]; omega
    · obtain rfl : k = xs.length := by omega
      rw [show xs.take xs.length = xs from List.take_length]
      go_wp2
      go_ret
      exact ⟨rfl, HI.out⟩
set_option maxHeartbeats 2000000 in
theorem last_any (w : World) (A : Option Addr) (c : Nat) (xs : List Sp) (node : Int) (h : RdK spanTy w A xs.length xs) (hn : xs.length ≤ 140737488351232) :
    Calls Tryz.prog 39 #[.slice A xs.length c, .int .i64 node] w fun e w' => e = .returned (.int .i64 (if chkS xs = 0 then lastL node xs else 0)) ∧ Chg [] w w' := by
  have H := Lib.hid h
  have HN := Lib.hid hn
  clear h hn
  rcases chk_two xs with e1 | e1
  · rw [if_pos e1]
    have WF := Lib.hid (wf_of_chk e1)
    obtain ⟨w0, hw0, c0, b0⟩ := news1 w (.cells #[.int .i64 node] 3)
    have W0 := Lib.hid hw0
    have C0 := Lib.hid c0
    have B0 := Lib.hid b0
    replace H := Lib.hid (H.out.chg c0 (by simp))
    clear hw0 c0 b0
    go_enter Tryz.func39, Tryz.ntmps39
    go_wp2_with fail
    rw [← W0.out]
    generalize w.heap.size = g0 at *
    refine (pacheck_any w0 A _ c xs H.out HN.out).mono ?_
    rintro e w1 ⟨rfl, h1⟩
    rw [e1]
    have C1 := Lib.hid h1
    clear h1
    go_wp2_with fail
    refine (foldlast_any w1 A c xs g0 node (H.out.chg C1.out (by simp)) WF.out.2 (C1.out.at_ B0.out (by simp))).mono ?_
    rintro e w2 ⟨rfl, h2⟩
    have C2 := Lib.hid (C1.out.trans h2)
    clear h2
    go_wp2
    go_ret
    exact ⟨rfl, C0.out.trans C2.out⟩
  · rw [if_neg (by omega)]
    obtain ⟨w0, hw0, c0, b0⟩ := news1 w (.cells #[.int .i64 node] 3)
    have W0 := Lib.hid hw0
    have C0 := Lib.hid c0
    have B0 := Lib.hid b0
    replace H := Lib.hid (H.out.chg c0 (by simp))
    clear hw0 c0 b0
    go_enter Tryz.func39, Tryz.ntmps39
    go_wp2_with fail
    rw [← W0.out]
    generalize w.heap.size = g0 at *
    refine (pacheck_any w0 A _ c xs H.out HN.out).mono ?_
    rintro e w1 ⟨rfl, h1⟩
    rw [e1]
    have C1 := Lib.hid h1
    clear h1
    go_wp2
    go_ret
    exact ⟨rfl, C0.out.trans C1.out⟩
end
section
open Go.RowKit Go.Lib
set_option linter.unusedSimpArgs false
set_option linter.unusedVariables false
end
section
open Go.RowKit Go.Lib
set_option linter.unusedSimpArgs false
set_option linter.unusedVariables false


/-- The document's: the greatest of a node's ends. -/
def lastM (node : Int) (xs : List Sp) : Int := xs.foldl (fun n x => if x.1 = node then max n x.2.2 else n) 0
theorem lastM_take {node : Int} {xs : List Sp} {k : Nat} {x : Sp} (hx : xs[k]? = some x) : lastM node (xs.take (k + 1)) = if x.1 = node then max (lastM node (xs.take k)) x.2.2 else lastM node (xs.take k) := by
  rw [List.take_add_one, hx]; simp [lastM]
theorem last_same (node : Int) : ∀ (k : Nat) (xs : List Sp), WfC xs → lastM node (xs.take k) = lastL node (xs.take k) ∧ (lastL node (xs.take k) = 0 ∨ ∃ y ∈ xs.take k, y.1 = node ∧ y.2.2 = lastL node (xs.take k))
  | 0, xs, _ => by simp [lastM, lastL]
  | k + 1, xs, h => by
    obtain ⟨a, b⟩ := last_same node k xs h
    by_cases hk : k < xs.length
    · have hx := List.getElem?_eq_getElem hk
      have e1 : lastL node (xs.take (k + 1)) = if xs[k].1 = node then xs[k].2.2 else lastL node (xs.take k) := by rw [List.take_add_one, hx]; exact last_snoc _ _ _
      rw [lastM_take hx, e1, a]
      have mem : ∀ y ∈ xs.take k, y ∈ xs.take (k + 1) := fun y hy => by rw [List.take_add_one]; exact List.mem_append_left _ hy
      split
      · rename_i hn
        have bx := h.2 xs[k] (List.getElem_mem hk)
        have ox := h.1.1 xs[k] (List.getElem_mem hk)
        unfold SpOk at ox
        have le : lastL node (xs.take k) ≤ xs[k].2.2 := by
          rcases b with e | ⟨y, hy, hy1, hy2⟩
          · rw [e]; omega
          · obtain ⟨q, hq, rfl⟩ := List.getElem_of_mem hy
            rw [List.length_take] at hq
            rw [List.getElem_take] at hy1 hy2
            have hap := List.pairwise_iff_getElem.1 h.1.2 q k (by omega) hk (by omega)
            have oy := h.1.1 xs[q] (List.getElem_mem (by omega))
            rw [← hy2]
            unfold Ap SpOk at *
            omega
        exact ⟨by omega, .inr ⟨xs[k], List.mem_of_getElem? (i := k) (by rw [List.getElem?_take, if_pos (Nat.lt_succ_self k)]; exact hx), hn, rfl⟩⟩
      · refine ⟨rfl, ?_⟩
        rcases b with e | ⟨y, hy, hy1, hy2⟩
        · exact .inl e
        · exact .inr ⟨y, mem y hy, hy1, hy2⟩
    · rw [List.take_of_length_le (by omega : xs.length ≤ k + 1), ← List.take_of_length_le (by omega : xs.length ≤ k)]
      exact ⟨a, b⟩
theorem last_all (node : Int) {xs : List Sp} (h : WfC xs) : lastM node xs = lastL node xs := by
  have := (last_same node xs.length xs h).1
  rwa [List.take_length] at this
end
section
open Go.RowKit Go.Lib
set_option linter.unusedSimpArgs false
set_option linter.unusedVariables false
end
section
open Go.RowKit Go.Lib
set_option linter.unusedSimpArgs false
set_option linter.unusedVariables false


def FineQ (n s : Int) : Prop := 1 ≤ n ∧ n ≤ 200 ∧ 1 ≤ s ∧ s ≤ 2147483647
instance (n s : Int) : Decidable (FineQ n s) := by unfold FineQ; exact inferInstance
end
section
set_option linter.unusedSimpArgs false
set_option linter.unusedVariables false
def kF (x y : Bool) : Bool := x && !y
/-- The errno, and the past that is told. -/
def boundP (l : List Sp) : Int × List Sp := if 4000 < l.length then (8, []) else (0, l)
def joinE (a b : List Sp) : Int × List Sp := if chkS a = 0 ∧ chkS b = 0 then boundP (tidyS (a ++ b)) else (2, [])
def withinE (a b : List Sp) : Bool := decide (chkS a = 0 ∧ chkS b = 0) && decide (b.foldl withoutP a = [])
theorem memb_iff {l : List Sp} {n s : Int} : memb l n s = true ↔ Mem l n s := by unfold memb; simp
theorem minus_eq {a b pre : List Sp} (ha : WfC a) (hb : WfC b) (h : SwInv kF a b [] [] pre) : pre.foldl pushP [] = b.foldl withoutP a := by
  obtain ⟨c, d⟩ := h.done (by rfl)
  obtain ⟨e, f⟩ := withouts_norm (b := b) hb.1.1 ha.1
  refine norm_ext c e (fun n s => ?_)
  rw [d n s, f n s]
  unfold kF
  rw [Bool.and_eq_true, memb_iff]
  simp [memb]
end
section
open Go.RowKit Go.Lib
set_option linter.unusedSimpArgs false
set_option linter.unusedVariables false
end
section
open Go.RowKit Go.Lib
set_option linter.unusedSimpArgs false
set_option linter.unusedVariables false


theorem rd_oneS {w : World} {g : Nat} {x : Int × Int × Int} (h : w.heap[g]? = some (.cells #[.int .i64 x.1, .int .i64 x.2.1, .int .i64 x.2.2] 62)) : RdK spanTy w (some ⟨g, 0, none⟩) 1 [x] :=
  ⟨rfl, fun j v hj => ⟨_, rfl, by rw [add_zero_lit, cell_of h j]; simpa [RowTy.flat, spanTy] using hj⟩⟩
end
section
open Go.RowKit Go.Lib
set_option linter.unusedSimpArgs false
set_option linter.unusedVariables false
end
section
set_option linter.unusedSimpArgs false
set_option linter.unusedVariables false
variable {α : Type} {R : RowTy α}
theorem flat_set (full : List α) (j i : Nat) (x x' : α) (v : Value) (hx : full[j]? = some x) (hi : i < R.k) (he : ∀ q, q < R.k → (R.enc x')[q]? = if q = i then some v else (R.enc x)[q]?) :
    (R.flat full).set (j * R.k + i) v = R.flat (full.set j x') := by
  have hj := (List.getElem?_eq_some_iff.1 hx).1
  have hb : j * R.k + i < full.length * R.k := by
    have : (j + 1) * R.k ≤ full.length * R.k := Nat.mul_le_mul_right _ hj
    rw [Nat.add_mul, Nat.one_mul] at this
    omega
  refine R.flat_ext _ _ (by rw [List.length_set, R.flat_len, List.length_set]) (fun q p y hy hp => ?_)
  rw [List.getElem?_set] at hy
  rw [List.getElem?_set, R.flat_len]
  by_cases e : j = q
  · subst e
    rw [if_pos rfl, if_pos hj] at hy
    cases hy
    rw [he p hp]
    by_cases e2 : p = i
    · subst e2
      rw [if_pos rfl, if_pos hb, if_pos rfl]
    · rw [if_neg (by omega), if_neg e2, R.flat_at full j p x hx hp]
  · rw [if_neg e] at hy
    rw [if_neg, R.flat_at full q p y hy hp]
    intro e3
    rcases Nat.lt_or_gt_of_ne e with h | h
    · have : (j + 1) * R.k ≤ q * R.k := Nat.mul_le_mul_right _ h
      rw [Nat.add_mul, Nat.one_mul] at this
      omega
    · have : (q + 1) * R.k ≤ j * R.k := Nat.mul_le_mul_right _ h
      rw [Nat.add_mul, Nat.one_mul] at this
      omega
theorem OwnK.setc {w : World} {g c : Nat} {xs : List α} (h : OwnK R w (some ⟨g, 0, none⟩) c xs) (j i : Nat) (x x' : α) (v : Value) (hx : xs[j]? = some x) (hi : i < R.k) (he : ∀ q, q < R.k → (R.enc x')[q]? = if q = i then some v else (R.enc x)[q]?) :
    OwnK R (w.setCell ⟨g, j * R.k + i, none⟩ v) (some ⟨g, 0, none⟩) c (xs.set j x') := by
  have hj := (List.getElem?_eq_some_iff.1 hx).1
  rcases h with ⟨h, _⟩ | ⟨g', full, e, hg, h1, h2, h3, h4⟩
  · cases h
  · cases e
    have hx' : full[j]? = some x := by
      rw [← h4, List.getElem?_take, if_pos hj] at hx
      exact hx
    refine OwnK.of (full := full.set j x') ?_ (by simpa using h3) h2 (by simpa using h1) ?_
    · have := heap_setCell_same w g (j * R.k + i) _ _ v hg
      rw [this, List.setIfInBounds_toArray, flat_set full j i x x' v hx' hi he]
    · rw [List.length_set, List.take_set, h4]
end
section
open Go.RowKit Go.Lib
set_option linter.unusedSimpArgs false
set_option linter.unusedVariables false


theorem spanSetTo (y : Int × Int × Int) (v : Int) : ∀ q, q < spanTy.k → (spanTy.enc (y.1, y.2.1, v))[q]? = if q = 2 then some (.int .i64 v) else (spanTy.enc y)[q]?
  | 0, _ => rfl
  | 1, _ => rfl
  | 2, _ => rfl
  | q + 3, h => absurd h (by have : spanTy.k = 3 := rfl; omega)
theorem own_free {w : World} {g c : Nat} {xs : List (Int × Int × Int)} (h : OwnK spanTy w (some ⟨g, 0, none⟩) c xs) (j : Nat) : w.frozen? ⟨g, j, none⟩ = false := by
  rcases h with ⟨h, _⟩ | ⟨g', full, e, hg, _⟩
  · cases h
  · cases e; exact free_of hg j
end
end
section
section
open Go.RowKit Go.Lib
set_option linter.unusedSimpArgs false
set_option linter.unusedVariables false


theorem fresh_appS {w2 w w' : World} {A A' : Option Addr} (hA : ∀ a, A = some a → w2.heap.size ≤ a.block) (hC : Chg [] w2 w) (g : w.grownBy w' (A.map (·.block))) (e : A' = A ∨ A' = some ⟨w.heap.size, 0, none⟩) :
    (∀ a, A' = some a → w2.heap.size ≤ a.block) ∧ Chg [] w2 w' := by
  refine ⟨?_, hC.grown g ?_⟩
  · rintro a rfl
    rcases e with h | h
    · exact hA a h.symm
    · cases h; exact hC.size
  · intro k hk
    cases A with
    | none => simp at hk
    | some a => simp at hk; subst hk; exact .inr (hA a rfl)
end
end
section
section
open Go.RowKit Go.Lib
set_option linter.unusedSimpArgs false
set_option linter.unusedVariables false
end
section
set_option linter.unusedSimpArgs false
set_option linter.unusedVariables false

theorem lastM_from (node : Int) : ∀ (xs : List Sp) (k : Int), k ≤ xs.foldl (fun n x => if x.1 = node then max n x.2.2 else n) k ∧ ∀ x ∈ xs, x.1 = node → x.2.2 ≤ xs.foldl (fun n x => if x.1 = node then max n x.2.2 else n) k
  | [], k => ⟨Int.le_refl _, by simp⟩
  | x :: xs, k => by
    obtain ⟨h1, h2⟩ := lastM_from node xs (if x.1 = node then max k x.2.2 else k)
    rw [List.foldl_cons]
    by_cases q : x.1 = node
    · rw [if_pos q] at h1 h2 ⊢
      refine ⟨by omega, fun y hy e => ?_⟩
      rcases List.mem_cons.1 hy with rfl | hy
      · omega
      · exact h2 y hy e
    · rw [if_neg q] at h1 h2 ⊢
      refine ⟨by omega, fun y hy e => ?_⟩
      rcases List.mem_cons.1 hy with rfl | hy
      · exact absurd e q
      · exact h2 y hy e
theorem last_ge {xs : List Sp} (h : WfC xs) {n s : Int} (hm : Mem xs n s) : s ≤ lastL n xs := by
  rw [← last_all n h]
  obtain ⟨x, hx, e, _, l⟩ := hm
  exact Int.le_trans l ((lastM_from n xs 0).2 x hx e)
theorem wf_mem {xs : List Sp} (h : WfC xs) {n s : Int} (hm : Mem xs n s) : 1 ≤ n ∧ n ≤ 200 ∧ 1 ≤ s ∧ s ≤ 2147483647 := by
  obtain ⟨x, hx, e, l, r⟩ := hm
  have := h.2 x hx
  omega
theorem wf_sub {m : List Sp} (h : Norm m) (hb : ∀ n s, Mem m n s → 1 ≤ n ∧ n ≤ 200 ∧ 1 ≤ s ∧ s ≤ 2147483647) : WfC m :=
  ⟨h, fun x hx => by
    have o := h.1 x hx
    unfold SpOk at o
    have a := hb x.1 x.2.1 ⟨x, hx, rfl, Int.le_refl _, o⟩
    have b := hb x.1 x.2.2 ⟨x, hx, rfl, o, Int.le_refl _⟩
    omega⟩
theorem push_len (out : List Sp) (z : Sp) : (pushP out z).length ≤ out.length + 1 := by
  unfold pushP
  split <;> (try split) <;> simp <;> omega
theorem fold_len : ∀ (zs out : List Sp), (zs.foldl pushP out).length ≤ out.length + zs.length
  | [], out => by simp
  | z :: zs, out => by
    have h1 := fold_len zs (pushP out z)
    have h2 := push_len out z
    rw [List.foldl_cons, List.length_cons]
    omega
theorem tidy_len (l : List Sp) : (tidyS l).length ≤ l.length := by
  have := fold_len (riseS l) []
  rw [(rise_props l).2.2] at this
  simpa [tidyS] using this
theorem bound_le {l : List Sp} (h : l.length ≤ 4000) : boundP l = (0, l) := by unfold boundP; rw [if_neg (by omega)]
/-- What is joined of two short pasts. -/
theorem join_ok {a b : List Sp} (ha : chkS a = 0) (hb : chkS b = 0) (hl : a.length + b.length ≤ 4000) : joinE a b = (0, tidyS (a ++ b)) ∧ chkS (tidyS (a ++ b)) = 0 ∧ (tidyS (a ++ b)).length ≤ a.length + b.length ∧ ∀ n s, Mem (tidyS (a ++ b)) n s ↔ Mem a n s ∨ Mem b n s := by
  have wa := (wf_of_chk ha).1
  have wb := (wf_of_chk hb).1
  have t := tidy_norm (l := a ++ b) (fun x hx => by
    rcases List.mem_append.1 hx with q | q
    · exact wa.1.1 x q
    · exact wb.1.1 x q)
  have tl := tidy_len (a ++ b)
  rw [List.length_append] at tl
  have tm : ∀ n s, Mem (tidyS (a ++ b)) n s ↔ Mem a n s ∨ Mem b n s := fun n s => (t.2 n s).trans mem_append
  have wt : WfC (tidyS (a ++ b)) := wf_sub t.1 (fun n s h => by
    rcases (tm n s).1 h with q | q
    · exact wf_mem wa q
    · exact wf_mem wb q)
  refine ⟨?_, chk_of_wf wt (by omega), tl, tm⟩
  unfold joinE
  rw [if_pos ⟨ha, hb⟩, bound_le (by omega)]
theorem within_yes {a b : List Sp} (ha : chkS a = 0) (hb : chkS b = 0) (h : ∀ n s, Mem a n s → Mem b n s) : withinE a b = true := by
  have wa := (wf_of_chk ha).1
  have wb := (wf_of_chk hb).1
  have t := withouts_norm (b := b) (a := a) wb.1.1 wa.1
  unfold withinE
  rw [decide_eq_true (show chkS a = 0 ∧ chkS b = 0 from ⟨ha, hb⟩), decide_eq_true (norm_none t.1 (fun n s q => ((t.2 n s).1 q).2 (h n s ((t.2 n s).1 q).1)))]
  rfl
theorem has_iff {xs : List Sp} (h : chkS xs = 0) (n s : Int) : hasE xs n s = decide (Mem xs n s) := by
  unfold hasE
  rw [decide_eq_true h, Bool.true_and]
theorem wf_B3 {xs : List Sp} (h : WfC xs) : ∀ x ∈ xs, B3 x := fin_of h
end
section
open Go.RowKit Go.Lib
set_option linter.unusedSimpArgs false
set_option linter.unusedVariables false

theorem B3.ok {x : Sp} (h : B3 x) : SpOk x := by unfold B3 at h; unfold SpOk; omega
/-- What was put in order, and then joined, is what is tidied. -/
theorem join_sorted {l m : List Sp} (hp : m.Perm l) (hs : m.Pairwise Le) (hb : ∀ x ∈ l, SpOk x) : m.foldl pushP [] = tidyS l := by
  have a := fold_norm (zs := m) norm_nil (fun x hx => hb x (hp.mem_iff.1 hx)) hs (by simp)
  have b := tidy_norm hb
  exact norm_ext a.1 b.1 (fun n s => by
    rw [a.2, b.2, mem_same (l := m) (m := l) (fun y => hp.mem_iff)]
    exact ⟨fun q => q.elim (fun q => absurd q mem_nil) id, .inr⟩)
theorem sorted_last {ms : List Sp} (hs : ms.Pairwise Le) (hb : ∀ x ∈ ms, SpOk x) {k : Nat} {x : Sp} (hx : ms[k]? = some x) : ∀ y, ((ms.take k).foldl pushP []).getLast? = some y → Le y x := by
  have hk := (List.getElem?_eq_some_iff.1 hx).1
  refine fold_last _ [] x norm_nil (fun z hz => hb z (List.mem_of_mem_take hz)) (hs.sublist (List.take_sublist _ _)) (fun z hz => ?_) (by simp) (by simp)
  obtain ⟨q, hq, rfl⟩ := List.getElem_of_mem hz
  rw [List.length_take] at hq
  rw [List.getElem_take]
  have h1 := List.pairwise_iff_getElem.1 hs q k (by omega) hk (by omega)
  rw [List.getElem?_eq_getElem hk] at hx
  cases hx
  exact h1
end
section
open Go.RowKit

/-- A reader at block b of the bytes xs (in row g; g = b: in none), at the place p, with the fault fe at fa. -/
def Rdr (w : World) (b g : Nat) (xs : List UInt8) (p : Nat) (fe fa : Int) : Prop :=
  ∃ A c, w.heap[b]? = some (.cells #[.pointer (some ⟨b, 0, none⟩), .slice A xs.length c, .int .i64 p, .int .i64 fe, .int .i64 fa] 122 (0, 0)) ∧ OwnB w A c xs ∧ (A = none ∧ g = b ∨ A = some ⟨g, 0, none⟩)

theorem Rdr.chg {S : List Nat} {w w' : World} {b g : Nat} {xs : List UInt8} {p : Nat} {fe fa : Int} (h : Rdr w b g xs p fe fa) (hc : Chg S w w') (hb : b ∉ S) (hg : g ∉ S) : Rdr w' b g xs p fe fa := by
  obtain ⟨A, c, h1, h2, h3⟩ := h
  refine ⟨A, c, hc.at_ h1 hb, h2.chg hc ?_, h3⟩
  rintro a rfl
  rcases h3 with ⟨h3, _⟩ | h3
  · cases h3
  · cases h3; exact hg
theorem Rdr.lt {w : World} {b g : Nat} {xs : List UInt8} {p : Nat} {fe fa : Int} (h : Rdr w b g xs p fe fa) : b < w.heap.size ∧ g < w.heap.size := by
  obtain ⟨A, c, h1, h2, h3⟩ := h
  have hb := lt_of_heap h1
  rcases h3 with ⟨_, rfl⟩ | rfl
  · exact ⟨hb, hb⟩
  · rcases h2.form with ⟨h, _⟩ | ⟨g', cur, h, h4, _⟩
    · cases h
    · cases h; exact ⟨hb, lt_of_heap h4⟩

theorem Rdr.drewN {w : World} {b g : Nat} {xs : List UInt8} {p : Nat} {fe fa : Int} (h : Rdr w b g xs p fe fa) (n : Nat) : Rdr (w.drewN n) b g xs p fe fa := h.chg ((Chg.refl [] w).drewN n) (by simp) (by simp)
end
section
open Go.RowKit

/-- The number of bytes, the highest first. -/
def val (l : List UInt8) : Nat := l.foldl (fun n x => n * 256 + x.toNat) 0

theorem OwnB.at_ {w : World} {A : Option Addr} {c g : Nat} {xs : List UInt8} (h : OwnB w A c xs) {b p : Nat} (h3 : A = none ∧ g = b ∨ A = some ⟨g, 0, none⟩) {x : UInt8} (hx : xs[p]? = some x) : A = some ⟨g, 0, none⟩ ∧ w.cell? ⟨g, p, none⟩ = some (.int .u8 (x.toNat : Int)) := by
  obtain ⟨a, e, hc⟩ := h.reads.cells p x hx
  rcases h3 with ⟨h3, _⟩ | h3
  · rw [h3] at e; cases e
  · rw [h3] at e; cases e
    rw [add_zero_lit] at hc
    exact ⟨h3, hc⟩
end
section
open Go.RowKit
end
section
open Go.RowKit
end
section
open Go.RowKit

theorem Rdr.place {w : World} {b g : Nat} {xs : List UInt8} {p q : Nat} {fe fa : Int} (h : Rdr w b g xs p fe fa) : Rdr (w.setCell ⟨b, 2, none⟩ (.int .i64 q)) b g xs q fe fa ∧ Chg [b] w (w.setCell ⟨b, 2, none⟩ (.int .i64 q)) := by
  obtain ⟨A, c, h1, h2, h3⟩ := h
  have hne := h2.ne h1 (by decide)
  have q1 := heap_setCell_same w b 2 _ _ (.int .i64 q) h1
  refine ⟨⟨A, c, by simpa using q1, h2.keep fun g o eA ho => ?_, h3⟩, (Chg.refl _ _).setCell (by simp) _⟩
  rw [Below.heap_setCell _ _ _ _ (hne _ eA)]; exact ho
end
section
open Go.RowKit
end
section
open Go.RowKit
end
section
open Go.RowKit Go.Lib
set_option linter.unusedSimpArgs false
set_option linter.unusedVariables false

/-- An event as it lies in memory: its dot, path, effect (kind, mode, bytes), past. -/
structure EvT where
  n : Int
  s : Int
  p : ByteArray
  k : Int
  m : Int
  A : Option Addr
  l : Nat
  c : Nat
  B : Option Addr
  bl : Nat
  bc : Nat
def evTy : RowTy EvT where
  enc := fun x => [.int .i64 x.n, .int .i64 x.s, .string x.p, .int .i64 x.k, .int .i64 x.m, .slice x.A x.l x.c, .slice x.B x.bl x.bc]
  k := 7
  T := 29
  TS := 31
  z := ⟨0, 0, ⟨#[]⟩, 0, 0, none, 0, 0, none, 0, 0⟩
  zv := .agg #[.int .i64 0, .int .i64 0, .string ⟨#[]⟩, .int .i64 0, .int .i64 0, .slice none 0 0, .slice none 0 0]
  bytes := 96
  klen := fun _ => rfl
  one := by intro x v hv; simp at hv; rcases hv with rfl | rfl | rfl | rfl | rfl | rfl | rfl <;> rfl
  zc := rfl
  kpos := by decide
  bpos := by decide
  under := by kernel_rfl
  info := by kernel_rfl
/-- What an event is. -/
structure EvP where
  n : Int
  s : Int
  p : List UInt8
  k : Int
  m : Int
  b : List UInt8
  q : List (Int × Int × Int)
/-- It reads so. -/
structure EvR (w : World) (x : EvT) (e : EvP) : Prop where
  n : x.n = e.n
  s : x.s = e.s
  p : x.p = strOf e.p
  k : x.k = e.k
  m : x.m = e.m
  l : x.l = e.b.length
  bl : x.bl = e.q.length
  A : Bs w x.A x.l e.b
  B : RdK spanTy w x.B x.bl e.q
/-- A slice that may be handed in. -/
def FitS (w : World) (A : Option Addr) (n c : Nat) : Prop := n ≤ c ∧ c ≤ maxLen ∧ ∀ a, A = some a → a.block < w.heap.size
structure EvF (w : World) (x : EvT) : Prop where
  A : FitS w x.A x.l x.c
  B : FitS w x.B x.bl x.bc
theorem FitS.chg {S : List Nat} {w w' : World} {A : Option Addr} {n c : Nat} (h : FitS w A n c) (hc : Chg S w w') : FitS w' A n c := ⟨h.1, h.2.1, fun a ha => Nat.lt_of_lt_of_le (h.2.2 a ha) hc.size⟩
theorem EvF.chg {S : List Nat} {w w' : World} {x : EvT} (h : EvF w x) (hc : Chg S w w') : EvF w' x := ⟨h.A.chg hc, h.B.chg hc⟩
theorem EvR.chg {w w' : World} {x : EvT} {e : EvP} (h : EvR w x e) (hc : Chg [] w w') : EvR w' x e := ⟨h.n, h.s, h.p, h.k, h.m, h.l, h.bl, h.A.chg hc (by simp), h.B.chg hc (by simp)⟩
/-- The event in a row of n cells at o. -/
theorem evCells {w : World} {g o n j : Nat} {xs : List EvT} (h : RdK evTy w (some ⟨g, o, none⟩) n xs) {x : EvT} (hx : xs[j]? = some x) : w.cell? ⟨g, o + j * 7, none⟩ = some (.int .i64 x.n) ∧ w.cell? ⟨g, o + j * 7 + 1, none⟩ = some (.int .i64 x.s) ∧ w.cell? ⟨g, o + j * 7 + 2, none⟩ = some (.string x.p) ∧ w.cell? ⟨g, o + j * 7 + 3, none⟩ = some (.int .i64 x.k) ∧ w.cell? ⟨g, o + j * 7 + 4, none⟩ = some (.int .i64 x.m) ∧ w.cell? ⟨g, o + j * 7 + 5, none⟩ = some (.slice x.A x.l x.c) ∧ w.cell? ⟨g, o + j * 7 + 6, none⟩ = some (.slice x.B x.bl x.bc) :=
  ⟨h.at_ j 0 x _ hx rfl, h.at_ j 1 x _ hx rfl, h.at_ j 2 x _ hx rfl, h.at_ j 3 x _ hx rfl, h.at_ j 4 x _ hx rfl, h.at_ j 5 x _ hx rfl, h.at_ j 6 x _ hx rfl⟩
end
section
open Go.RowKit

/-- What stands between the bytes 47 of a text; acc: what was read of the first one. -/
def cutA : List UInt8 → List UInt8 → List (List UInt8)
  | acc, [] => [acc]
  | acc, b :: l => if b = 47 then acc :: cutA [] l else cutA (acc ++ [b]) l
def cutL (l : List UInt8) : List (List UInt8) := cutA [] l
theorem cutA_no : ∀ (l acc : List UInt8), 47 ∉ l → cutA acc l = [acc ++ l]
  | [], acc, _ => by simp [cutA]
  | b :: l, acc, h => by
    simp only [List.mem_cons, not_or] at h
    rw [cutA, if_neg (fun e => h.1 e.symm), cutA_no l _ h.2, List.append_assoc]
    rfl
theorem cutA_at : ∀ (a acc b : List UInt8), 47 ∉ a → cutA acc (a ++ 47 :: b) = (acc ++ a) :: cutA [] b
  | [], acc, b, _ => by simp [cutA]
  | x :: a, acc, b, h => by
    simp only [List.mem_cons, not_or] at h
    rw [List.cons_append, cutA, if_neg (fun e => h.1 e.symm), cutA_at a _ b h.2, List.append_assoc]
    rfl
/-- May a byte be in a part? -/
def okB (b : UInt8) : Bool := (97 ≤ b.toNat && b.toNat ≤ 122) || (48 ≤ b.toNat && b.toNat ≤ 57) || b == 46 || b == 95 || b == 45
def partL (most : Nat) (p : List UInt8) : Bool := p.all okB && decide (1 ≤ p.length) && decide (p.length ≤ most) && p != [46] && p != [46, 46]
def checkL (parts most : Nat) (l : List UInt8) : Bool := decide ((cutL l).length ≤ parts) && (cutL l).all (partL most)
/-- Has a letter no place in a part? -/
def foreignR (c : Nat) : Bool := !((97 ≤ c && c ≤ 122) || (48 ≤ c && c ≤ 57) || c == 46 || c == 95 || c == 45)
theorem foreign_byte (b : UInt8) : foreignR b.toNat = !okB b := by
  have e : ∀ k : UInt8, (b.toNat == k.toNat) = (b == k) := fun k => by
    rw [Bool.eq_iff_iff, beq_iff_eq, beq_iff_eq]
    exact ⟨fun h => UInt8.toNat_inj.1 h, fun h => by rw [h]⟩
  unfold foreignR okB
  have e1 := e 46
  have e2 := e 95
  have e3 := e 45
  simp only [show (46 : UInt8).toNat = 46 from rfl, show (95 : UInt8).toNat = 95 from rfl, show (45 : UInt8).toNat = 45 from rfl] at e1 e2 e3
  rw [e1, e2, e3]
theorem foreign_ge {c : Nat} (h : 128 ≤ c) : foreignR c = true := by
  simp [foreignR]
  omega
theorem decodeN_ge (n b0 b1 b2 b3 : Nat) (h : 128 ≤ b0) : 128 ≤ (Lib.decodeN n b0 b1 b2 b3).1 := by
  unfold Lib.decodeN
  repeat' split
  all_goals first | omega | (simp only; omega)
theorem get_at (s : ByteArray) (i : Nat) (b : UInt8) (h : s.data.toList[i]? = some b) : s.get! i = b := by
  have hi : i < s.data.size := by
    have := (List.getElem?_eq_some_iff.1 h).1
    simpa using this
  have : s.data[i]? = some b := by rwa [Array.getElem?_toList] at h
  show s.data[i]! = b
  rw [getElem!_pos s.data i hi]
  exact (Array.getElem?_eq_some_iff.1 this).2
/-- The letter at a byte that may be in a part is that byte; at another one it has no place in a part. -/
theorem foreign_at (s : ByteArray) (i : Nat) (b : UInt8) (h : s.data.toList[i]? = some b) : foreignR (Utf8.decode s i).1 = !okB b ∧ (okB b = true → (Utf8.decode s i).2 = 1) := by
  rw [Lib.decode_at, get_at s i b h]
  by_cases hb : b.toNat < 128
  · have e : ∀ n x y z, Lib.decodeN n b.toNat x y z = (b.toNat, 1) := fun n x y z => by unfold Lib.decodeN; rw [if_pos hb]
    rw [e]
    exact ⟨foreign_byte b, fun _ => rfl⟩
  · have hb : 128 ≤ b.toNat := by omega
    have ho : okB b = false := by
      have := foreign_byte b
      rw [foreign_ge hb] at this
      simpa using this.symm
    rw [ho]
    exact ⟨foreign_ge (decodeN_ge _ _ _ _ _ hb), fun h => by cases h⟩
end
section
open Go.RowKit
theorem strOf_of (s : ByteArray) : strOf s.data.toList = s := by
  unfold strOf
  rw [Array.toArray_toList]
theorem strOf_ext (l : List UInt8) (a b : Nat) : (strOf l).extract a b = strOf ((l.drop a).take (b - a)) := by
  apply ByteArray.ext
  apply Array.toList_inj.1
  rw [show ((strOf l).extract a b).data = (strOf l).data.extract a b from ByteArray.data_extract]
  simp [strOf, List.extract_eq_take_drop]
end
section
open Go.RowKit
end
end
end Go.Proofs.YtgbidlhgmeglmaaGreatDoor
