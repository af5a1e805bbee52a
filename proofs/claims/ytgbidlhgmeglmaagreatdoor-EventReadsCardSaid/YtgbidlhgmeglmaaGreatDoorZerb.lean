/- bytes.Clone, the kit's copy, and the writer's Out; the writer's calls whatever came ahead. The kit's functions on bytes: same, lent, kept, written over. cmp.Compare at int, bytes.Compare, cmp.Or at three ints. Package dot: Check, compare, Less, Next; the document's Check, Less, Next. Package dot: compare, Less, Next; the document's Less, Next. Dots in slices: the kit's functions on them. Spans in slices: the functions of the kit on them. The reader of package wire: Open, and what tells without reading. The reader's number: what it tells, and what is wrong. The reader's number where no digit follows. The reader's number where digits follow. The reader's number, whatever stands there; Num, Text and Raw. The reader's piece; Raw and Text. -/
import Derived.Test.YtgbidlhgmeglmaaGreatDoorZera
import Derived.Lib.BytesEntry
import Derived.Deep.RegionHeld3
import Derived.Deep.QuietTactic
import Derived.BigQuiet
import Derived.RegionTactic
import Derived.ScopeJumps
namespace Go.Proofs.YtgbidlhgmeglmaaGreatDoor
section
open Go.RowKit

/-- Bytes in memory of their own, which was not there at first. -/
def Fresh (w w' : World) (A : Option Addr) (c : Nat) (ys : List UInt8) : Prop := OwnB w' A c ys ∧ (∀ a, A = some a → w.heap.size ≤ a.block) ∧ Chg [] w w'

theorem OwnB.empty (w : World) : OwnB (w.alloc (.cells #[] 5)) (some ⟨w.heap.size, 0, none⟩) 0 [] := .of (full := []) (heap_alloc_new w _) (by simp) (by simp [maxLen]) rfl (by simp)

theorem fresh_app {w w1 : World} {A' : Option Addr} {c' : Nat} {ys : List UInt8} (own1 : OwnB w1 A' c' ([] ++ ys)) (hg1 : (w.alloc (.cells #[] 5)).grownBy w1 (Option.map (·.block) (some (⟨w.heap.size, 0, none⟩ : Addr))))
    (hA1 : A' = some ⟨w.heap.size, 0, none⟩ ∨ A' = some ⟨(w.alloc (.cells #[] 5)).heap.size, 0, none⟩) : Fresh w w1 A' c' ys := by
  refine ⟨own1, ?_, ((Chg.refl [] w).alloc _).grown hg1 (by simp)⟩
  rintro a rfl
  rcases hA1 with h | h <;> cases h <;> simp

set_option maxHeartbeats 400000 in
theorem clone_any (w : World) (B : Option Addr) (m d : Nat) (ys : List UInt8) (hr : Bs w B m ys) (hm : m ≤ 140737488351232) :
    Calls Tryz.prog 110 #[.slice B m d] w fun r w' => ∃ A c, r = .returned (.slice A m c) ∧ Fresh w w' A c ys := by
  rcases B with _ | a
  · have hy : ys = [] := by
      cases ys with
      | nil => rfl
      | cons y ys => obtain ⟨a, h, _⟩ := hr.cells 0 y rfl; cases h
    have hm0 := hr.len
    subst hy
    simp at hm0
    subst hm0
    have h0 := fun w => Lib.run_eql_slice_nil (P := Tryz.prog) w 24 5 none 0 d 0 0 Tryz.underlying24
    go_enter Tryz.func110, Tryz.ntmps110
    go_wp2
    go_ret
    exact ⟨none, 0, rfl, OwnB.none_ _, by simp, Chg.refl _ _⟩
  · have h0 := fun w => Lib.run_eql_slice_nil (P := Tryz.prog) w 24 5 (some a) m d 0 0 Tryz.underlying24
    go_enter Tryz.func110, Tryz.ntmps110
    go_wp2_with (at_builtin; refine wpList_app rfl _ _ rfl rfl (OwnB.empty w) rfl rfl (hr.chg ((Chg.refl [] w).alloc _) (by simp)) (by simp; omega) ?_; intro A' c' w1 own1 hg1 hA1)
    go_ret
    exact ⟨A', c', by simp, fresh_app own1 hg1 hA1⟩

set_option maxHeartbeats 400000 in
theorem copy_any (w : World) (B : Option Addr) (m d : Nat) (ys : List UInt8) (hr : Bs w B m ys) (hm : m ≤ 140737488351232) :
    Calls Tryz.prog 74 #[.slice B m d] w fun r w' => ∃ A c, r = .returned (.slice A m c) ∧ Fresh w w' A c ys := by
  go_enter Tryz.func74, Tryz.ntmps74
  go_wp2_with (at_builtin; refine wpList_app rfl _ _ rfl rfl (OwnB.empty w) rfl rfl (hr.chg ((Chg.refl [] w).alloc _) (by simp)) (by simp; omega) ?_; intro A' c' w1 own1 hg1 hA1)
  go_ret
  exact ⟨A', c', by simp, fresh_app own1 hg1 hA1⟩
end
section
open Go.RowKit

set_option maxHeartbeats 400000 in
theorem same_any (w : World) (A B : Option Addr) (n m c d : Nat) (xs ys : List UInt8) (h : Bs w A n xs) (k : Bs w B m ys) :
    Calls Tryz.prog 13 #[.slice A n c, .slice B m d] w fun e w' => e = .returned (.bool (xs == ys)) ∧ w = w' := by
  have h1 := run_str w (c := c) h
  have k1 := run_str w (c := d) k
  go_enter Tryz.func13, Tryz.ntmps13
  go_wp2
  go_ret
  exact ⟨rfl, rfl⟩
theorem same_yes (w : World) (A B : Option Addr) (n m c d : Nat) (xs ys : List UInt8) (h : Bs w A n xs) (k : Bs w B m ys) (e : xs = ys) :
    Calls Tryz.prog 13 #[.slice A n c, .slice B m d] w fun e w' => e = .returned (.bool true) ∧ w = w' := by
  have := same_any w A B n m c d xs ys h k
  rwa [show (xs == ys) = true by simpa using e] at this

/-- The marks that stand behind what is lent. -/
def marks : List UInt8 := [201, 17, 99]
/-- What is lent: bytes at the head of row g, marks behind them. -/
def Lent (w : World) (g : Nat) (xs : List UInt8) : Prop := ∃ full : List UInt8, w.heap[g]? = some (.cells (full.map bv).toArray 5 (0, 0)) ∧ full.take (xs.length + 3) = xs ++ marks

theorem Bs.three (w : World) : Bs (w.alloc (.cells #[.int .u8 201, .int .u8 17, .int .u8 99] 5)) (some ⟨w.heap.size, 0, none⟩) 3 marks := by
  refine ⟨rfl, fun j u hj => ⟨_, rfl, ?_⟩⟩
  have hl := (List.getElem?_eq_some_iff.1 hj).1
  rw [add_zero_lit, cell_of (heap_alloc_new w (.cells #[.int .u8 201, .int .u8 17, .int .u8 99] 5)) j]
  match j, hj, hl with
  | 0, hj, _ => cases hj; rfl
  | 1, hj, _ => cases hj; rfl
  | 2, hj, _ => cases hj; rfl

theorem OwnB.lent {w : World} {A : Option Addr} {c : Nat} {xs : List UInt8} (h : OwnB w A c (xs ++ marks)) : ∃ g, A = some ⟨g, 0, none⟩ ∧ Lent w g xs := by
  rcases h with ⟨_, h, _⟩ | ⟨g, full, rfl, h1, _, _, _, h5⟩
  · simp [marks] at h
  · exact ⟨g, rfl, full, h1, by rw [← h5]; simp [marks]⟩

theorem Lent.reads {w : World} {g : Nat} {xs : List UInt8} (h : Lent w g xs) : Bs w (some ⟨g, 0, none⟩) xs.length xs := by
  obtain ⟨full, h1, h2⟩ := h
  refine ⟨rfl, fun j u hj => ⟨_, rfl, ?_⟩⟩
  have hl := (List.getElem?_eq_some_iff.1 hj).1
  rw [add_zero_lit, cell_of h1 j]
  have e : full[j]? = some u := by
    have := congrArg (fun l => l[j]?) h2
    simp only [List.getElem?_take, List.getElem?_append] at this
    rw [if_pos (by omega), if_pos hl, hj] at this
    exact this
  simp [e]
theorem Lent.marks {w : World} {g : Nat} {xs : List UInt8} (h : Lent w g xs) : Bs w (some ⟨g, xs.length, none⟩) 3 marks := by
  obtain ⟨full, h1, h2⟩ := h
  refine ⟨rfl, fun j u hj => ⟨_, rfl, ?_⟩⟩
  have hl : j < 3 := (List.getElem?_eq_some_iff.1 hj).1
  rw [add_lit, cell_of h1]
  have e : full[xs.length + j]? = some u := by
    have := congrArg (fun l => l[xs.length + j]?) h2
    simp only [List.getElem?_take, List.getElem?_append] at this
    rw [if_pos (by omega), if_neg (by omega), show xs.length + j - xs.length = j by omega, hj] at this
    exact this
  simp [e]
theorem Lent.chg {S : List Nat} {w w' : World} {g : Nat} {xs : List UInt8} (h : Lent w g xs) (hc : Chg S w w') (hg : g ∉ S) : Lent w' g xs := by
  obtain ⟨full, h1, h2⟩ := h
  exact ⟨full, hc.at_ h1 hg, h2⟩

set_option maxHeartbeats 400000 in
theorem lent_any (w : World) (B : Option Addr) (m d : Nat) (xs : List UInt8) (hr : Bs w B m xs) (hm : m ≤ 140737488351232) :
    Calls Tryz.prog 24 #[.slice B m d] w fun e w' => ∃ g, e = .returned (.slice (some ⟨g, 0, none⟩) m (m + 3)) ∧ Lent w' g xs ∧ w.heap.size ≤ g ∧ Chg [] w w' := by
  have hl := hr.len
  subst hl
  go_enter Tryz.func24, Tryz.ntmps24
  go_wp2_with (first
    | (go_at_call 74; refine (copy_any _ _ _ _ xs hr hm).mono ?_; rintro e w1 ⟨A1, c1, rfl, f1, f2, f3⟩; have F2 := Lib.hid f2; clear f2)
    | (at_builtin; refine wpList_app rfl _ _ rfl rfl (f1.chg ((Chg.refl [] w1).alloc _) (by simp)) rfl rfl (Bs.three w1) (by omega) ?_; intro A2 c2 w2 own2 hg2 hA2; obtain ⟨g, rfl, hL⟩ := own2.lent; have hcap := own2.cap; simp only [List.length_append, marks, List.length_cons, List.length_nil, maxLen] at hcap))
  go_ret
  have hs := f3.size
  have F3 := f3.alloc (.cells #[.int .u8 201, .int .u8 17, .int .u8 99] 5)
  refine ⟨g, rfl, hL, ?_, F3.grown hg2 (fun k hk => ?_)⟩
  · rcases hA2 with h | h
    · exact F2.out _ h.symm
    · cases h
      simp; omega
  · cases A1 with
    | none => cases hk
    | some a =>
      simp at hk
      subst hk
      exact .inr (F2.out _ rfl)

set_option maxHeartbeats 400000 in
theorem kept_any (w : World) (g : Nat) (B : Option Addr) (m d : Nat) (xs : List UInt8) (hL : Lent w g xs) (hr : Bs w B m xs) (hm : m ≤ 140737488351232) :
    Calls Tryz.prog 28 #[.slice (some ⟨g, 0, none⟩) m (m + 3), .slice B m d] w fun e w' => e = .returned (.bool true) ∧ Chg [] w w' := by
  have hl := hr.len
  subst hl
  go_enter Tryz.func28, Tryz.ntmps28
  go_wp2_with fail
  refine (same_yes _ _ _ _ _ _ _ xs xs hL.reads hr rfl).mono ?_
  rintro e w1 ⟨rfl, rfl⟩
  have h0 : ¬ xs.length + 3 = xs.length := by omega
  have hM := Lent.marks (hL.chg ((Chg.refl [] w).alloc (.cells #[.int .u8 201, .int .u8 17, .int .u8 99] 5)) (by simp))
  go_wp2_with fail
  refine (same_yes _ _ _ _ _ _ _ marks marks hM (Bs.three w) rfl).mono ?_
  rintro e w1 ⟨rfl, rfl⟩
  go_wp2
  go_ret
  exact ⟨rfl, (Chg.refl _ _).alloc _⟩

/-- A row of bytes, whole. -/
def Row (w : World) (g : Nat) (full : List UInt8) : Prop := w.heap[g]? = some (.cells (full.map bv).toArray 5 (0, 0))
theorem Row.cell {w : World} {g : Nat} {full : List UInt8} (h : Row w g full) (j : Nat) (hj : j < full.length) : w.cell? ⟨g, j, none⟩ = some (.int .u8 ((full.getD j 0).toNat : Int)) := by
  rw [cell_of h j]
  simp [List.getD, hj, bv]
theorem Row.set {w : World} {g : Nat} {full : List UInt8} (h : Row w g full) (j : Nat) (x : Int) (c : UInt8) (hx : x = (c.toNat : Int)) : Row (w.setCell ⟨g, j, none⟩ (.int .u8 x)) g (full.set j c) := by
  have := heap_setCell_same w g j _ _ (.int .u8 x) h
  unfold Row
  rw [this]
  subst hx
  congr 2
  simp [bv]
def byteAt (full : List UInt8) (j : Nat) : Nat := (full.getD j 0).toNat
theorem byteAt_lt (full : List UInt8) (j : Nat) : byteAt full j < 256 := (full.getD j 0).toNat_lt

set_option maxHeartbeats 400000 in
theorem over_row (w : World) (g n c : Nat) (full : List UInt8) (hg : Row w g full) (hc : c ≤ full.length) (hm : c ≤ 9223372036854775807) :
    Calls Tryz.prog 18 #[.slice (some ⟨g, 0, none⟩) n c] w fun e w' => e = .returned (.tuple #[]) ∧ Chg [g] w w' := by
  have HG := Lib.hid hg
  clear hg
  go_enter Tryz.func18, Tryz.ntmps18
  go_wp2
  go_loopw [3] (fun i wr => ∃ (j : Nat) (fl : List UInt8), j ≤ c ∧ i = .int .i64 j ∧ Row wr g fl ∧ fl.length = full.length ∧ Chg [g] w wr) (fun i _ => c - (intOf i).toNat)
  case atStart => exact ⟨0, full, by omega, rfl, HG.out, rfl, Chg.refl _ _⟩
  case round =>
    obtain ⟨j, fl, hj, rfl, hr, hl, hch⟩ := hrel
    have HR := Lib.hid hr
    have HL := Lib.hid hl
    by_cases hlt : j < c
    · have hcj := hr.cell j (by omega)
      have hfj := free_of hr j
      have hb := byteAt_lt fl j
      rw [show (fl.getD j 0).toNat = byteAt fl j from rfl] at hcj
      clear hr hl
      go_wp2
      refine ⟨⟨j + 1, fl.set j (UInt8.ofNat ((byteAt fl j + 101) % 256)), by omega, by go_num, HR.out.set j _ _ (u8_of _ _ (by omega) (by omega)), by rw [List.length_set]; exact HL.out, hch.setCell (by simp) _⟩, by simp [intOf]; omega⟩
    · clear hr hl
      go_wp2
      go_end0
      exact ⟨rfl, hch⟩

set_option maxHeartbeats 400000 in
theorem over_nil (w : World) (n : Nat) : Calls Tryz.prog 18 #[.slice none n 0] w fun e w' => e = .returned (.tuple #[]) ∧ w = w' := by
  go_enter Tryz.func18, Tryz.ntmps18
  go_wp2
  refine wp_loop_rounds 1 ?_
  rw [rounds_succ]
  go_wp2
  go_end0
  exact ⟨rfl, rfl⟩

/-- The bytes of an answer, written over. -/
theorem over_own (w : World) (A : Option Addr) (c n : Nat) (xs : List UInt8) (h : OwnB w A c xs) (hn : n = xs.length) :
    Calls Tryz.prog 18 #[.slice A n c] w fun e w' => e = .returned (.tuple #[]) ∧ ∀ S : List Nat, (∀ a, A = some a → a.block ∈ S) → Chg S w w' := by
  subst hn
  rcases h with ⟨rfl, rfl, rfl⟩ | ⟨g, full, rfl, hg, hl, hm, hn, _⟩
  · exact (over_nil w 0).mono fun e w' ⟨h1, h2⟩ => ⟨h1, fun S _ => h2 ▸ Chg.refl _ _⟩
  · refine (over_row w g xs.length c full hg (by omega) (by unfold maxLen at hm; omega)).mono fun e w' ⟨h1, h2⟩ => ⟨h1, fun S hS => h2.mono ?_⟩
    intro i hi
    simp at hi
    subst hi
    exact .inl (hS _ rfl)
end
section
open Go.RowKit
end
section
open Go.RowKit
set_option linter.unusedSimpArgs false
set_option linter.unusedVariables false

/-- Which dots may be. -/
def FineD (n s : Int) : Prop := 1 ≤ n ∧ n ≤ 200 ∧ 1 ≤ s ∧ s ≤ 2147483647
instance (n s : Int) : Decidable (FineD n s) := by unfold FineD; exact inferInstance
/-- Why a dot may not be. -/
def chkD (n s : Int) : Int := if FineD n s then 0 else 2
theorem chkD_fine {n s : Int} (h : FineD n s) : chkD n s = 0 := if_pos h
theorem chkD_odd {n s : Int} (h : ¬ FineD n s) : chkD n s = 2 := if_neg h

set_option maxHeartbeats 400000 in
theorem dcheck_any (w : World) (n s : Int) : Calls Tryz.prog 113 #[.agg #[.int .i64 n, .int .i64 s]] w fun e w' => e = .returned (.int .i64 (chkD n s)) ∧ Chg [] w w' := by
  have go : ∀ v, chkD n s = v → Calls Tryz.prog 113 #[.agg #[.int .i64 n, .int .i64 s]] w (fun e w' => e = .returned (.int .i64 v) ∧ Chg [] w w') → Calls Tryz.prog 113 #[.agg #[.int .i64 n, .int .i64 s]] w fun e w' => e = .returned (.int .i64 (chkD n s)) ∧ Chg [] w w' := fun v hv h => hv ▸ h
  by_cases h : FineD n s
  · refine go 0 (chkD_fine h) ?_
    clear go
    obtain ⟨h1, h2, h3, h4⟩ := h
    go_enter Tryz.func113, Tryz.ntmps113
    go_wp2
    go_ret
    exact ⟨rfl, (Chg.refl _ _).alloc _⟩
  · refine go 2 (chkD_odd h) ?_
    clear go
    unfold FineD at h
    by_cases h1 : n < 1
    · clear h
      go_enter Tryz.func113, Tryz.ntmps113
      go_wp2
      go_ret
      exact ⟨rfl, (Chg.refl _ _).alloc _⟩
    by_cases h2 : 200 < n
    · clear h
      go_enter Tryz.func113, Tryz.ntmps113
      go_wp2
      go_ret
      exact ⟨rfl, (Chg.refl _ _).alloc _⟩
    by_cases h3 : s < 1
    · clear h
      go_enter Tryz.func113, Tryz.ntmps113
      go_wp2
      go_ret
      exact ⟨rfl, (Chg.refl _ _).alloc _⟩
    · have h4 : 2147483647 < s := by omega
      clear h
      go_enter Tryz.func113, Tryz.ntmps113
      go_wp2
      go_ret
      exact ⟨rfl, (Chg.refl _ _).alloc _⟩
/-- Comes one dot ahead of another one? -/
def LtD (a s b t : Int) : Prop := a < b ∨ a = b ∧ s < t
instance (a s b t : Int) : Decidable (LtD a s b t) := by unfold LtD; exact inferInstance
end
section
open Go.RowKit
set_option linter.unusedSimpArgs false
set_option linter.unusedVariables false
end
section
open Go.RowKit
set_option linter.unusedSimpArgs false
set_option linter.unusedVariables false
end
section
open Go.RowKit
set_option linter.unusedSimpArgs false
set_option linter.unusedVariables false


def spanTy : RowTy (Int × Int × Int) where
  enc := fun x => [.int .i64 x.1, .int .i64 x.2.1, .int .i64 x.2.2]
  k := 3
  T := 62
  TS := 27
  z := (0, 0, 0)
  zv := .agg #[.int .i64 0, .int .i64 0, .int .i64 0]
  bytes := 24
  klen := fun _ => rfl
  one := by intro x v hv; simp at hv; rcases hv with rfl | rfl | rfl <;> rfl
  zc := rfl
  kpos := by decide
  bpos := by decide
  under := by kernel_rfl
  info := by kernel_rfl
theorem spanCells {w : World} {g o n j : Nat} {xs : List (Int × Int × Int)} (h : RdK spanTy w (some ⟨g, o, none⟩) n xs) {x : Int × Int × Int} (hx : xs[j]? = some x) : w.cell? ⟨g, o + j * 3, none⟩ = some (.int .i64 x.1) ∧ w.cell? ⟨g, o + j * 3 + 1, none⟩ = some (.int .i64 x.2.1) ∧ w.cell? ⟨g, o + j * 3 + 2, none⟩ = some (.int .i64 x.2.2) :=
  ⟨h.at_ j 0 x _ hx rfl, h.at_ j 1 x _ hx rfl, h.at_ j 2 x _ hx rfl⟩
set_option maxHeartbeats 1000000 in
theorem samespan_any (w : World) (A B : Option Addr) (n m c d : Nat) (xs ys : List (Int × Int × Int)) (h : RdK spanTy w A n xs) (h' : RdK spanTy w B m ys) (hn : n ≤ 140737488351232) (hm : m ≤ 140737488351232) :
    Calls Tryz.prog 32 #[.slice A n c, .slice B m d] w fun e w' => e = .returned (.bool (xs == ys)) ∧ Chg [] w w' := by
  have hl := h.len
  have hl2 := h'.len
  subst hl hl2
  by_cases hne : xs.length = ys.length
  · have hb : ((xs.length : Int) == (ys.length : Int)) = true := by simp; omega
    have HN := Lib.hid hne
    have HA := Lib.hid h
    have HB := Lib.hid h'
    clear hne h h'
    go_enter Tryz.func32, Tryz.ntmps32
    go_wp2
    go_loopw [5] (fun i wr => ∃ k : Nat, k ≤ xs.length ∧ i = .int .i64 k ∧ Hid (xs.take k = ys.take k ∧ Chg [] w wr)) (fun i _ => xs.length - (RowKit.intOf i).toNat)
    case atStart => exact ⟨0, Nat.zero_le _, rfl, rfl, Chg.refl _ _⟩
    case round =>
      obtain ⟨k, hk, rfl, HI⟩ := hrel
      by_cases hlt : k < xs.length
      · have hlt2 : k < ys.length := by have := HN.out; omega
        obtain ⟨g, o, eA, _⟩ := HA.out.line (by omega)
        obtain ⟨g2, o2, eB, _⟩ := HB.out.line (by omega)
        subst eA eB
        have ex := List.getElem?_eq_getElem hlt
        have ey := List.getElem?_eq_getElem hlt2
        obtain ⟨p0, p1, p2⟩ := spanCells (HA.out.chg HI.out.2 (by simp)) ex
        obtain ⟨q0, q1, q2⟩ := spanCells (HB.out.chg HI.out.2 (by simp)) ey
        generalize hx : xs[k] = x at *
        generalize hy : ys[k] = y at *
        have i0 : (0 : Int) ≤ (k : Int) := by omega
        have i1 : (k : Int) < (xs.length : Int) := by omega
        have i2 : (k : Int) < (ys.length : Int) := by omega
        have HX := Lib.hid (And.intro ex ey)
        clear ex ey hx hy
        refine (Decidable.em (x = y)).elim (fun hxy => ?EQ) (fun hxy => ?NE)
        case EQ =>
          subst hxy
          go_wp2
          go_quiet (fail)
          go_wp2
          refine ⟨⟨k + 1, by omega, by simp, ?_, HI.out.2.drewN _⟩, by simp [RowKit.intOf]; omega⟩
          rw [List.take_add_one, List.take_add_one, HI.out.1, HX.out.1, HX.out.2]
        case NE =>
          have hf : (xs == ys) = false := by
            rw [beq_eq_false_iff_ne]
            intro e
            apply hxy
            have h1 := HX.out.1
            rw [e, HX.out.2] at h1
            exact (Option.some.inj h1).symm
          have HF := Lib.hid hf
          clear hf
          by_cases h0 : x.1 = y.1
          · skip
            by_cases h1 : x.2.1 = y.2.1
            · skip
              have h2 : ¬ x.2.2 = y.2.2 := fun h => hxy (by exact Prod.ext h0 (Prod.ext h1 h))
              clear hxy
              go_wp2
              go_quiet (fail)
              go_wp2
              go_ret
              exact ⟨by rw [HF.out]; rfl, HI.out.2.drewN _⟩
            · clear hxy
              go_wp2
              go_quiet (fail)
              go_wp2
              go_ret
              exact ⟨by rw [HF.out]; rfl, HI.out.2.drewN _⟩
          · clear hxy
            go_wp2
            go_quiet (fail)
            go_wp2
            go_ret
            exact ⟨by rw [HF.out]; rfl, HI.out.2.drewN _⟩
      · obtain rfl : k = xs.length := by omega
        have ht : (xs == ys) = true := by
          have := HI.out.1
          rw [List.take_of_length_le (Nat.le_refl _), List.take_of_length_le (by have := HN.out; omega)] at this
          simpa using this
        have HF := Lib.hid ht
        clear ht
        go_wp2
        go_ret
        exact ⟨by rw [HF.out]; rfl, HI.out.2⟩
  · have hb : ((xs.length : Int) == (ys.length : Int)) = false := by simp; omega
    have hf : (xs == ys) = false := by
      rw [beq_eq_false_iff_ne]
      intro e
      exact hne (by rw [e])
    rw [hf]
    clear hne h h' hf
    go_enter Tryz.func32, Tryz.ntmps32
    go_wp2
    go_ret
    exact ⟨rfl, Chg.refl _ _⟩
theorem spanSet (full : List (Int × Int × Int)) (j : Nat) (x : Int × Int × Int) (hj : j < full.length) : ((((spanTy.flat full).toArray.setIfInBounds (j * 3) (.int .i64 x.1)).setIfInBounds (j * 3 + 1) (.int .i64 x.2.1)).setIfInBounds (j * 3 + 2) (.int .i64 x.2.2)) = (spanTy.flat (full.set j x)).toArray := by
  apply Array.toList_inj.1
  refine (spanTy.flat_ext _ (full.set j x) ?_ ?_)
  · simp [RowTy.flat_len]
  · intro q i y hy hi
    have hk : spanTy.k = 3 := rfl
    rw [hk] at hi ⊢
    have hlen : (spanTy.flat full).length = full.length * 3 := spanTy.flat_len full
    simp only [Array.toList_setIfInBounds, List.getElem?_set, List.length_set]
    rw [List.getElem?_set] at hy
    by_cases hq : j = q
    · subst hq
      rw [if_pos rfl, if_pos hj] at hy
      cases hy
      rcases (show i = 0 ∨ i = 1 ∨ i = 2 by omega) with rfl | rfl | rfl
      · rw [if_neg (by omega)]; rw [if_neg (by omega)]; rw [if_pos (by omega), if_pos (by simp [hlen]; omega)]; rfl
      · rw [if_neg (by omega)]; rw [if_pos (by omega), if_pos (by simp [hlen]; omega)]; rfl
      · rw [if_pos (by omega), if_pos (by simp [hlen]; omega)]; rfl
    · rw [if_neg hq] at hy
      have hql := (List.getElem?_eq_some_iff.1 hy).1
      rw [if_neg (by omega), if_neg (by omega), if_neg (by omega)]
      have e := spanTy.flat_at full q i y hy (by rw [hk]; exact hi)
      rw [hk] at e
      simpa using e
theorem spanPut (w : World) (g j : Nat) (full : List (Int × Int × Int)) (x : Int × Int × Int) (h : w.heap[g]? = some (.cells (spanTy.flat full).toArray 62 (0, 0))) (hj : j < full.length) : (((w.setCell ⟨g, j * 3, none⟩ (.int .i64 x.1)).setCell ⟨g, j * 3 + 1, none⟩ (.int .i64 x.2.1)).setCell ⟨g, j * 3 + 2, none⟩ (.int .i64 x.2.2)).heap[g]? = some (.cells (spanTy.flat (full.set j x)).toArray 62 (0, 0)) := by
  have h0 := heap_setCell_same _ g (j * 3) _ _ (.int .i64 x.1) h
  have h1 := heap_setCell_same _ g (j * 3 + 1) _ _ (.int .i64 x.2.1) h0
  have h2 := heap_setCell_same _ g (j * 3 + 2) _ _ (.int .i64 x.2.2) h1
  rw [spanSet full j x hj] at h2
  exact h2
set_option maxHeartbeats 1000000 in
theorem overspan_row (w : World) (g n c : Nat) (full : List (Int × Int × Int)) (hg : w.heap[g]? = some (.cells (spanTy.flat full).toArray 62 (0, 0))) (hl : full.length = c) (hn : n ≤ c) (hc : c ≤ 9223372036854775807) :
    Calls Tryz.prog 35 #[.slice (some ⟨g, 0, none⟩) n c] w fun e w' => e = .returned (.tuple #[]) ∧ Chg [g] w w' := by
  have HG := Lib.hid hg
  clear hg
  have i1 : (0 : Int) ≤ (c : Int) := by omega
  have hcc : (n : Int) ≤ (c : Int) := by omega
  go_enter Tryz.func35, Tryz.ntmps35
  go_wp2
  go_loopw [3] (fun i wr => ∃ (k : Nat) (cur : List (Int × Int × Int)), k ≤ c ∧ i = .int .i64 k ∧ Hid (cur.length = c ∧ wr.heap[g]? = some (.cells (spanTy.flat cur).toArray 62 (0, 0)) ∧ Chg [g] w wr)) (fun i _ => c - (RowKit.intOf i).toNat)
  case atStart => exact ⟨0, full, Nat.zero_le _, rfl, hl, HG.out, Chg.refl _ _⟩
  case round =>
    obtain ⟨k, cur, hk, rfl, HI⟩ := hrel
    by_cases hlt : k < c
    · have hcl : k < cur.length := by have := HI.out.1; omega
      have hrd : RdK spanTy wr (some ⟨g, 0, none⟩) cur.length cur := (OwnK.of (c := cur.length) (xs := cur) HI.out.2.1 (Nat.le_refl _) (by have := HI.out.1; unfold maxLen; omega) rfl (List.take_length)).reads
      have ex := List.getElem?_eq_getElem hcl
      obtain ⟨p0, p1, p2⟩ := spanCells hrd ex
      simp only [Nat.zero_add] at p0 p1 p2
      have f0 := free_of HI.out.2.1 (k * 3)
      have f1 := free_of HI.out.2.1 (k * 3 + 1)
      have f2 := free_of HI.out.2.1 (k * 3 + 2)
      have i2 : (0 : Int) ≤ (k : Int) := by omega
      have i3 : (k : Int) < (c : Int) := by omega
      have hput := spanPut wr g k cur (-7, 7, -7) HI.out.2.1 hcl
      have hch := HI.out.2.2.trans ((((Chg.refl [g] wr).setCell (p := ⟨g, k * 3, none⟩) (.inl (by simp)) (.int .i64 (-7))).setCell (p := ⟨g, k * 3 + 1, none⟩) (.inl (by simp)) (.int .i64 (7))).setCell (p := ⟨g, k * 3 + 2, none⟩) (.inl (by simp)) (.int .i64 (-7)))
      have HP := Lib.hid (And.intro hput hch)
      clear hput hch hrd ex
      go_wp2
      refine ⟨⟨k + 1, cur.set k (-7, 7, -7), by omega, by simp, by rw [List.length_set]; exact HI.out.1, HP.out.1, HP.out.2⟩, by simp [RowKit.intOf]; omega⟩
    · obtain rfl : k = c := by omega
      go_wp2
      go_end0
      exact ⟨rfl, HI.out.2.2⟩
set_option maxHeartbeats 1000000 in
theorem overspan_own (w : World) (A : Option Addr) (n c : Nat) (xs : List (Int × Int × Int)) (h : OwnK spanTy w A c xs) (hn : n = xs.length) :
    Calls Tryz.prog 35 #[.slice A n c] w fun e w' => e = .returned (.tuple #[]) ∧ ∀ S : List Nat, (∀ a, A = some a → a.block ∈ S) → Chg S w w' := by
  subst hn
  rcases h with ⟨rfl, rfl, rfl⟩ | ⟨g, full, rfl, hg, hl, hm, hn, _⟩
  · go_enter Tryz.func35, Tryz.ntmps35
    go_wp2
    refine wp_loop_rounds 1 ?_
    rw [rounds_succ]
    go_wp2
    go_end0
    exact ⟨rfl, fun S _ => Chg.refl _ _⟩
  · unfold maxLen at hm
    exact (overspan_row w g _ c full hg hl hn (by omega)).mono fun e w' ⟨h1, h2⟩ => ⟨h1, fun S hS => h2.mono (fun i hi => by simp at hi; subst hi; exact .inl (hS _ rfl))⟩
end
section
open Go.RowKit

/-- A reader at block b of the bytes xs (in row g; g = b: in none), at the place p, with the fault fe at fa. -/
def Rdr (w : World) (b g : Nat) (xs : List UInt8) (p : Nat) (fe fa : Int) : Prop :=
  ∃ A c, w.heap[b]? = some (.cells #[.pointer (some ⟨b, 0, none⟩), .slice A xs.length c, .int .i64 p, .int .i64 fe, .int .i64 fa] 122 (0, 0)) ∧ OwnB w A c xs ∧ (A = none ∧ g = b ∨ A = some ⟨g, 0, none⟩)

theorem Rdr.chg {S : List Nat} {w w' : World} {b g : Nat} {xs : List UInt8} {p : Nat} {fe fa : Int} (h : Rdr w b g xs p fe fa) (hc : Chg S w w') (hb : b ∉ S) (hg : g ∉ S) : Rdr w' b g xs p fe fa := by
  obtain ⟨A, c, h1, h2, h3⟩ := h
  refine ⟨A, c, hc.at_ h1 hb, h2.chg hc ?_, h3⟩
  rintro a rfl
  rcases h3 with ⟨h3, _⟩ | h3
  · cases h3
  · cases h3; exact hg
theorem Rdr.lt {w : World} {b g : Nat} {xs : List UInt8} {p : Nat} {fe fa : Int} (h : Rdr w b g xs p fe fa) : b < w.heap.size ∧ g < w.heap.size := by
  obtain ⟨A, c, h1, h2, h3⟩ := h
  have hb := lt_of_heap h1
  rcases h3 with ⟨_, rfl⟩ | rfl
  · exact ⟨hb, hb⟩
  · rcases h2.form with ⟨h, _⟩ | ⟨g', cur, h, h4, _⟩
    · cases h
    · cases h; exact ⟨hb, lt_of_heap h4⟩

theorem someR : (Tryz.prog.info? 122).isSome = true := by kernel_rfl
theorem eqlPR (a : Addr) (w : World) : (binOp .eql 86 (.pointer (some a)) (.pointer (some a))).run Tryz.prog w = .ok (.bool true) w := by
  obtain ⟨j, hj⟩ := Option.isSome_iff_exists.1 someR
  exact run_eql_ptr_same w a Tryz.underlying86 hj

theorem flipw {P : Program} {f : FuncId} {args : Array Value} {w : World} {v : Value} (h : Calls P f args w fun e w' => e = .returned v ∧ w = w') : Calls P f args w fun e w' => e = .returned v ∧ w' = w :=
  h.mono fun _ _ hh => ⟨hh.1, hh.2.symm⟩
theorem Rdr.drewN {w : World} {b g : Nat} {xs : List UInt8} {p : Nat} {fe fa : Int} (h : Rdr w b g xs p fe fa) (n : Nat) : Rdr (w.drewN n) b g xs p fe fa := h.chg ((Chg.refl [] w).drewN n) (by simp) (by simp)

set_option maxHeartbeats 400000 in
theorem open_any (w : World) (B : Option Addr) (m d : Nat) (ys : List UInt8) (hr : Bs w B m ys) (hm : m ≤ 140737488351232) :
    Calls Tryz.prog 75 #[.slice B m d] w fun r w' => ∃ b g, r = .returned (.pointer (some ⟨b, 0, none⟩)) ∧ Rdr w' b g ys 0 0 0 ∧ Chg [] w w' ∧ w.heap.size ≤ b ∧ w.heap.size ≤ g := by
  have hl := hr.len
  go_enter Tryz.func75, Tryz.ntmps75
  go_wp2_with (go_at_call 110; refine (clone_any _ _ _ _ ys hr hm).mono ?_; rintro r w1 ⟨A1, c1, rfl, hF⟩)
  go_ret
  subst hl
  obtain ⟨h1, h2, h3⟩ := hF
  have h4 := h3.alloc (.cells #[.pointer (some ⟨w1.heap.size, 0, none⟩), .slice A1 ys.length c1, .int .i64 0, .int .i64 0, .int .i64 0] 122)
  have hs := h3.size
  have own : OwnB (w1.alloc (.cells #[.pointer (some ⟨w1.heap.size, 0, none⟩), .slice A1 ys.length c1, .int .i64 0, .int .i64 0, .int .i64 0] 122)) A1 c1 ys := h1.chg ((Chg.refl [] w1).alloc _) (by simp)
  rcases h1.form with ⟨rfl, _⟩ | ⟨g, cur, rfl, _⟩
  · exact ⟨_, _, rfl, ⟨none, c1, heap_alloc_new w1 _, own, .inl ⟨rfl, rfl⟩⟩, h4, hs, hs⟩
  · exact ⟨_, g, rfl, ⟨_, c1, heap_alloc_new w1 _, own, .inr rfl⟩, h4, hs, h2 _ rfl⟩

set_option maxHeartbeats 400000 in
theorem rmade_yes (w : World) (b g : Nat) (xs : List UInt8) (p : Nat) (fe fa : Int) (h : Rdr w b g xs p fe fa) :
    Calls Tryz.prog 149 #[.pointer (some ⟨b, 0, none⟩)] w fun e w' => e = .returned (.bool true) ∧ w = w' := by
  obtain ⟨A, c, h1, _, _⟩ := h
  have h0 := cell_of h1 0
  simp only [List.getElem?_toArray, List.getElem?_cons_zero] at h0
  have H := Lib.hid h1
  clear h1
  have h1 := eqlPR ⟨b, 0, none⟩
  go_enter Tryz.func149, Tryz.ntmps149
  go_wp2
  go_ret
  exact ⟨rfl, rfl⟩
set_option maxHeartbeats 400000 in
theorem rreads_any (w : World) (b g : Nat) (xs : List UInt8) (p : Nat) (fe fa : Int) (h : Rdr w b g xs p fe fa) :
    Calls Tryz.prog 121 #[.pointer (some ⟨b, 0, none⟩)] w fun e w' => e = .returned (.bool (fe == 0)) ∧ w = w' := by
  obtain ⟨A, c, h1, _, _⟩ := id h
  have h0 := cell_of h1 3
  simp only [List.getElem?_toArray, List.getElem?_cons_zero, List.getElem?_cons_succ] at h0
  have H := Lib.hid h1
  clear h1
  go_enter Tryz.func121, Tryz.ntmps121
  go_wp2_with (go_at_call 149; refine (rmade_yes _ b g xs p fe fa h).mono ?_; rintro r w' ⟨rfl, rfl⟩)
  go_ret
  exact ⟨rfl, rfl⟩
set_option maxHeartbeats 400000 in
theorem rfault_any (w : World) (b g : Nat) (xs : List UInt8) (p : Nat) (fe fa : Int) (h : Rdr w b g xs p fe fa) :
    Calls Tryz.prog 124 #[.pointer (some ⟨b, 0, none⟩)] w fun e w' => e = .returned (.agg #[.int .i64 fe, .int .i64 fa]) ∧ Chg [] w w' := by
  obtain ⟨A, c, h1, _, _⟩ := id h
  have h0 := cell_of h1 3
  have h2 := cell_of h1 4
  simp only [List.getElem?_toArray, List.getElem?_cons_zero, List.getElem?_cons_succ] at h0 h2
  have hb := lt_of_heap h1
  have H := Lib.hid h1
  clear h1
  have h' := h.chg ((Chg.refl [] w).alloc (.cells #[.int .i64 0, .int .i64 0] 44)) (by simp) (by simp)
  go_enter Tryz.func124, Tryz.ntmps124
  go_wp2_with (go_at_call 149; refine (rmade_yes _ b g xs p fe fa h').mono ?_; rintro r w' ⟨rfl, rfl⟩)
  refine bodyPost_ret (v := .agg #[.int .i64 fe, .int .i64 fa]) (by simp [results, Tryz.results124, go_sem]) rfl ?_
  exact ⟨rfl, (Chg.refl _ _).alloc _⟩

set_option maxHeartbeats 400000 in
theorem rend_left (w : World) (b g : Nat) (xs : List UInt8) (p : Nat) (fa : Int) (h : Rdr w b g xs p 0 fa) (hp : p < xs.length) (_hx : xs.length ≤ 140737488351232) :
    Calls Tryz.prog 79 #[.pointer (some ⟨b, 0, none⟩)] w fun e w' => e = .returned (.agg #[.int .i64 4, .int .i64 p]) ∧ Chg [] w w' := by
  obtain ⟨A, c, h1, _, _⟩ := id h
  have h0 := cell_of h1 2
  have h2 := cell_of h1 1
  simp only [List.getElem?_toArray, List.getElem?_cons_zero, List.getElem?_cons_succ] at h0 h2
  have hb := lt_of_heap h1
  have H := Lib.hid h1
  clear h1
  have h' := h.chg ((Chg.refl [] w).alloc (.cells #[.int .i64 0, .int .i64 0] 44)) (by simp) (by simp)
  go_enter Tryz.func79, Tryz.ntmps79
  go_wp2
  go_quiet ((go_at_call 121; exact Calls.quiet_of_same (flipw (rreads_any _ b g xs p 0 fa (h'.drewN _)))))
  go_wp2
  refine bodyPost_ret (v := .agg #[.int .i64 4, .int .i64 p]) (by simp [results, Tryz.results79, go_sem]) rfl ?_
  exact ⟨rfl, ((((Chg.refl _ _).alloc _).drewN _).setCell (.inr (Nat.le_refl _)) _).setCell (.inr (Nat.le_refl _)) _⟩
set_option maxHeartbeats 400000 in
theorem rend_done (w : World) (b g : Nat) (xs : List UInt8) (p : Nat) (fe fa : Int) (h : Rdr w b g xs p fe fa) (hp : fe = 0 → p = xs.length) (_hx : xs.length ≤ 140737488351232) :
    Calls Tryz.prog 79 #[.pointer (some ⟨b, 0, none⟩)] w fun e w' => e = .returned (.agg #[.int .i64 fe, .int .i64 fa]) ∧ Chg [] w w' := by
  obtain ⟨A, c, h1, _, _⟩ := id h
  have h0 := cell_of h1 2
  have h2 := cell_of h1 1
  simp only [List.getElem?_toArray, List.getElem?_cons_zero, List.getElem?_cons_succ] at h0 h2
  have hb := lt_of_heap h1
  have H := Lib.hid h1
  clear h1
  have hc := (Chg.refl [] w).alloc (.cells #[.int .i64 0, .int .i64 0] 44)
  have h' := h.chg hc (by simp) (by simp)
  have Hh := Lib.hid h'
  by_cases he : fe = 0
  · have hp' := hp he
    subst he hp'
    clear hp
    go_enter Tryz.func79, Tryz.ntmps79
    go_wp2
    go_quiet ((go_at_call 121; exact Calls.quiet_of_same (flipw (rreads_any _ b g xs xs.length 0 fa (Hh.out.drewN _)))))
    go_wp2_with (go_at_call 124; refine (rfault_any _ b g xs xs.length 0 fa (Hh.out.drewN _)).mono ?_; rintro r w1 ⟨rfl, hc1⟩; have q := hc1.at_ (heap_alloc_new w (.cells #[.int .i64 0, .int .i64 0] 44)) (by simp); have q0 := cell_of q 0; have q1 := cell_of q 1; have f0 := free_of q 0; have f1 := free_of q 1; simp only [List.getElem?_toArray, List.getElem?_cons_zero, List.getElem?_cons_succ] at q0 q1; have Q := Lib.hid q; clear q; have C1 := Lib.hid hc1; clear hc1)
    refine bodyPost_ret (v := .agg #[.int .i64 0, .int .i64 fa]) (by simp [results, Tryz.results79, go_sem, q0, q1]) rfl ?_
    exact ⟨rfl, (((hc.drewN nq).trans C1.out).setCell (.inr (Nat.le_refl _)) _).setCell (.inr (Nat.le_refl _)) _⟩
  · have he' : (fe == 0) = false := by simpa using he
    clear hp
    have hr : ∀ n, Calls Tryz.prog 121 #[.pointer (some ⟨b, 0, none⟩)] ((w.alloc (.cells #[.int .i64 0, .int .i64 0] 44)).drewN n) fun e w' => e = .returned (.bool false) ∧ w' = ((w.alloc (.cells #[.int .i64 0, .int .i64 0] 44)).drewN n) := fun n => by
      have := flipw (rreads_any _ b g xs p fe fa (Hh.out.drewN n))
      rwa [he'] at this
    have Hr := Lib.hid hr
    clear hr
    go_enter Tryz.func79, Tryz.ntmps79
    go_wp2
    go_quiet ((go_at_call 121; exact Calls.quiet_of_same (Hr.out _)))
    go_wp2_with (go_at_call 124; refine (rfault_any _ b g xs p fe fa (Hh.out.drewN _)).mono ?_; rintro r w1 ⟨rfl, hc1⟩; have q := hc1.at_ (heap_alloc_new w (.cells #[.int .i64 0, .int .i64 0] 44)) (by simp); have q0 := cell_of q 0; have q1 := cell_of q 1; have f0 := free_of q 0; have f1 := free_of q 1; simp only [List.getElem?_toArray, List.getElem?_cons_zero, List.getElem?_cons_succ] at q0 q1; have Q := Lib.hid q; clear q; have C1 := Lib.hid hc1; clear hc1)
    refine bodyPost_ret (v := .agg #[.int .i64 fe, .int .i64 fa]) (by simp [results, Tryz.results79, go_sem, q0, q1]) rfl ?_
    exact ⟨rfl, (((hc.drewN nq).trans C1.out).setCell (.inr (Nat.le_refl _)) _).setCell (.inr (Nat.le_refl _)) _⟩
end
section
open Go.RowKit

/-- A scope whose jumps all go forward to one label: what stands there is walked from each of them. -/
theorem wp_scope_fwd {P : Program} {a : Act} {w : World} {Q : Exit → Act → World → Prop} {c rest : Code} (l : Nat) (hf : findLabel c l = some rest)
    (first : c.wp P (Exit.jump l (fun a' w' => rest.wp P (Exit.jump l (fun _ _ => False) Q) a' w') Q) a w) : (Code.scope c).wp P Q a w := by
  refine wp_scope_jumps l _ (fun _ _ => 0) hf first ?_
  intro a w h b k cs
  obtain ⟨e, a', w', hq, harr⟩ := h b k cs
  refine ⟨e, a', w', ?_, harr⟩
  cases e with
  | goto l' => exact absurd hq.2 (by simp)
  | _ => exact hq

/-- The number of bytes, the highest first. -/
def val (l : List UInt8) : Nat := l.foldl (fun n x => n * 256 + x.toNat) 0

/-- Behind a fault. -/
def Failed (w w' : World) (b g : Nat) (xs : List UInt8) (p : Nat) (fe fa : Int) : Prop := Rdr w' b g xs p fe fa ∧ Chg [b] w w'

theorem failed_of {w : World} {b g : Nat} {xs : List UInt8} {p : Nat} {A : Option Addr} {c : Nat} {fe0 fa0 : Int} (h1 : w.heap[b]? = some (.cells #[.pointer (some ⟨b, 0, none⟩), .slice A xs.length c, .int .i64 p, .int .i64 fe0, .int .i64 fa0] 122 (0, 0)))
    (h2 : OwnB w A c xs) (h3 : A = none ∧ g = b ∨ A = some ⟨g, 0, none⟩) (n m : Nat) (fe fa : Int) :
    Failed w ((((w.drewN n).setCell ⟨b, 3, none⟩ (.int .i64 fe)).setCell ⟨b, 4, none⟩ (.int .i64 fa)).drewN m) b g xs p fe fa := by
  have hne := h2.ne h1 (by decide)
  have q1 := heap_setCell_same (w.drewN n) b 3 _ _ (.int .i64 fe) h1
  have q2 := heap_setCell_same _ b 4 _ _ (.int .i64 fa) q1
  refine ⟨⟨A, c, by simpa using q2, h2.keep fun g o eA ho => ?_, h3⟩, ((((Chg.refl _ _).drewN _).setCell (by simp) _).setCell (by simp) _).drewN _⟩
  have hn := hne _ eA
  show (((w.drewN n).setCell ⟨b, 3, none⟩ (.int .i64 fe)).setCell ⟨b, 4, none⟩ (.int .i64 fa)).heap[g]? = _
  rw [Below.heap_setCell _ _ _ _ hn, Below.heap_setCell _ _ _ _ hn]; exact ho

set_option maxHeartbeats 400000 in
theorem num_end (w : World) (b g : Nat) (xs : List UInt8) (fa low high : Int) (h : Rdr w b g xs xs.length 0 fa) :
    Calls Tryz.prog 122 #[.pointer (some ⟨b, 0, none⟩), .int .i64 low, .int .i64 high] w fun e w' => e = .returned (.tuple #[.int .i64 0, .int .i64 xs.length]) ∧ Failed w w' b g xs xs.length 4 xs.length := by
  obtain ⟨A, c, h1, h2, h3⟩ := h
  have k1 := cell_of h1 1
  have k2 := cell_of h1 2
  have k3 := cell_of h1 3
  have k4 := cell_of h1 4
  have f3 := free_of h1 3
  have f4 := free_of h1 4
  simp only [List.getElem?_toArray, List.getElem?_cons_zero, List.getElem?_cons_succ] at k1 k2 k3 k4
  have H := Lib.hid h1
  have H3 := Lib.hid h3
  clear h1 h3
  go_enter Tryz.func122, Tryz.ntmps122
  go_wp2
  refine wp_scope_fwd 0 rfl ?_
  go_wp2
  go_quiet (fail)
  go_wp2
  go_quiet (fail)
  go_wp2
  go_step3
  refine And.intro rfl ?_
  show Code.wp _ _ _ _ _
  go_wp2
  go_quiet (fail)
  go_wp2
  simp only [Exit.jump]
  go_ret2
  exact ⟨rfl, failed_of H.out h2 H3.out _ _ _ _⟩

theorem OwnB.at_ {w : World} {A : Option Addr} {c g : Nat} {xs : List UInt8} (h : OwnB w A c xs) {b p : Nat} (h3 : A = none ∧ g = b ∨ A = some ⟨g, 0, none⟩) {x : UInt8} (hx : xs[p]? = some x) : A = some ⟨g, 0, none⟩ ∧ w.cell? ⟨g, p, none⟩ = some (.int .u8 (x.toNat : Int)) := by
  obtain ⟨a, e, hc⟩ := h.reads.cells p x hx
  rcases h3 with ⟨h3, _⟩ | h3
  · rw [h3] at e; cases e
  · rw [h3] at e; cases e
    rw [add_zero_lit] at hc
    exact ⟨h3, hc⟩

set_option maxHeartbeats 400000 in
theorem num_arg (w : World) (b g : Nat) (xs : List UInt8) (p : Nat) (fa low high : Int) (h : Rdr w b g xs p 0 fa) (x : UInt8) (hx : xs[p]? = some x) (h8 : 8 < (x.toNat : Int)) :
    Calls Tryz.prog 122 #[.pointer (some ⟨b, 0, none⟩), .int .i64 low, .int .i64 high] w fun e w' => e = .returned (.tuple #[.int .i64 0, .int .i64 p]) ∧ Failed w w' b g xs p 2 p := by
  obtain ⟨A, c, h1, h2, h3⟩ := h
  have hp : p < xs.length := (List.getElem?_eq_some_iff.1 hx).1
  have hne : ((p : Int) == xs.length) = false := by simp; omega
  obtain ⟨rfl, hc⟩ := h2.at_ h3 hx
  have k1 := cell_of h1 1
  have k2 := cell_of h1 2
  have k3 := cell_of h1 3
  have k4 := cell_of h1 4
  have f3 := free_of h1 3
  have f4 := free_of h1 4
  simp only [List.getElem?_toArray, List.getElem?_cons_zero, List.getElem?_cons_succ] at k1 k2 k3 k4
  have H := Lib.hid h1
  have H3 := Lib.hid h3
  have Hx := Lib.hid hx
  clear h1 h3 hx
  go_enter Tryz.func122, Tryz.ntmps122
  go_wp2
  refine wp_scope_fwd 0 rfl ?_
  go_wp2
  iterate 4 (go_quiet (fail); go_wp2)
  go_step3
  refine And.intro rfl ?_
  show Code.wp _ _ _ _ _
  go_wp2
  go_quiet (fail)
  go_wp2
  simp only [Exit.jump]
  go_ret2
  exact ⟨rfl, failed_of H.out h2 (.inr rfl) _ _ _ _⟩

set_option maxHeartbeats 400000 in
theorem num_short (w : World) (b g : Nat) (xs : List UInt8) (p : Nat) (fa low high : Int) (h : Rdr w b g xs p 0 fa) (hl : xs.length ≤ 140737488351232) (x : UInt8) (hx : xs[p]? = some x) (h8 : (x.toNat : Int) ≤ 8) (hs : xs.length - (p + 1) < x.toNat) :
    Calls Tryz.prog 122 #[.pointer (some ⟨b, 0, none⟩), .int .i64 low, .int .i64 high] w fun e w' => e = .returned (.tuple #[.int .i64 0, .int .i64 p]) ∧ Failed w w' b g xs p 4 xs.length := by
  obtain ⟨A, c, h1, h2, h3⟩ := h
  have hp : p < xs.length := (List.getElem?_eq_some_iff.1 hx).1
  have hcap := h2.cap
  unfold maxLen at hcap
  have hne : ((p : Int) == xs.length) = false := by simp; omega
  obtain ⟨rfl, hc⟩ := h2.at_ h3 hx
  have k1 := cell_of h1 1
  have k2 := cell_of h1 2
  have k3 := cell_of h1 3
  have k4 := cell_of h1 4
  have f3 := free_of h1 3
  have f4 := free_of h1 4
  simp only [List.getElem?_toArray, List.getElem?_cons_zero, List.getElem?_cons_succ] at k1 k2 k3 k4
  have H := Lib.hid h1
  have Hx := Lib.hid hx
  clear h1 h3 hx
  go_enter Tryz.func122, Tryz.ntmps122
  go_wp2
  refine wp_scope_fwd 0 rfl ?_
  go_wp2
  iterate 4 (go_quiet (fail); go_wp2)
  all_goals
    go_quiet (fail)
    go_wp2
    go_step3
    refine And.intro rfl ?_
    show Code.wp _ _ _ _ _
    go_wp2
    go_quiet (fail)
    go_wp2
    simp only [Exit.jump]
    go_ret2
    exact ⟨rfl, failed_of H.out h2 (.inr rfl) _ _ _ _⟩

set_option maxHeartbeats 400000 in
theorem num_zero (w : World) (b g : Nat) (xs : List UInt8) (p : Nat) (fa low high : Int) (h : Rdr w b g xs p 0 fa) (hl : xs.length ≤ 140737488351232) (x : UInt8) (hx : xs[p]? = some x) (h8 : (x.toNat : Int) ≤ 8) (hs : x.toNat ≤ xs.length - (p + 1)) (h1 : 0 < x.toNat) (hz : xs[p + 1]? = some 0) :
    Calls Tryz.prog 122 #[.pointer (some ⟨b, 0, none⟩), .int .i64 low, .int .i64 high] w fun e w' => e = .returned (.tuple #[.int .i64 0, .int .i64 p]) ∧ Failed w w' b g xs p 2 p := by
  obtain ⟨A, c, h1, h2, h3⟩ := h
  have hp : p < xs.length := (List.getElem?_eq_some_iff.1 hx).1
  have hcap := h2.cap
  unfold maxLen at hcap
  have hne : ((p : Int) == xs.length) = false := by simp; omega
  have hcc : ¬ c = p + 1 := by omega
  obtain ⟨rfl, hc⟩ := h2.at_ h3 hx
  obtain ⟨_, hc2⟩ := h2.at_ h3 hz
  have k1 := cell_of h1 1
  have k2 := cell_of h1 2
  have k3 := cell_of h1 3
  have k4 := cell_of h1 4
  have f3 := free_of h1 3
  have f4 := free_of h1 4
  simp only [List.getElem?_toArray, List.getElem?_cons_zero, List.getElem?_cons_succ] at k1 k2 k3 k4
  have H := Lib.hid h1
  have Hx := Lib.hid hx
  have Hz := Lib.hid hz
  clear h1 h3 hx hz
  go_enter Tryz.func122, Tryz.ntmps122
  go_wp2
  refine wp_scope_fwd 0 rfl ?_
  go_wp2
  iterate 7 (go_quiet (fail); go_wp2)
  go_step3
  refine And.intro rfl ?_
  show Code.wp _ _ _ _ _
  go_wp2
  go_quiet (fail)
  go_wp2
  simp only [Exit.jump]
  go_ret2
  exact ⟨rfl, failed_of H.out h2 (.inr rfl) _ _ _ _⟩
end
section
open Go.RowKit

set_option maxHeartbeats 1000000 in
theorem num_none (w : World) (b g : Nat) (xs : List UInt8) (p : Nat) (fa low high : Int) (h : Rdr w b g xs p 0 fa) (hl : xs.length ≤ 140737488351232) (x : UInt8) (hx : xs[p]? = some x) (h0 : x.toNat = 0) (hr : low ≤ 0) (hr2 : 0 ≤ high) :
    Calls Tryz.prog 122 #[.pointer (some ⟨b, 0, none⟩), .int .i64 low, .int .i64 high] w fun e w' => e = .returned (.tuple #[.int .i64 0, .int .i64 ((p : Int) + 1)]) ∧ Chg [] w w' := by
  obtain ⟨A, c, h1, h2, h3⟩ := h
  have hp : p < xs.length := (List.getElem?_eq_some_iff.1 hx).1
  have hcap := h2.cap
  unfold maxLen at hcap
  have hne : ((p : Int) == xs.length) = false := by simp; omega
  obtain ⟨rfl, hc⟩ := h2.at_ h3 hx
  rw [h0] at hc
  have k1 := cell_of h1 1
  have k2 := cell_of h1 2
  simp only [List.getElem?_toArray, List.getElem?_cons_zero, List.getElem?_cons_succ] at k1 k2
  have H := Lib.hid h1
  have Hx := Lib.hid hx
  have H0 := Lib.hid h0
  clear h1 h3 hx h0
  go_enter Tryz.func122, Tryz.ntmps122
  go_wp2
  refine wp_scope_fwd 0 rfl ?_
  go_wp2
  iterate 4 (go_quiet (fail); go_wp2)
  all_goals
    iterate 2 (go_quiet (fail); go_wp2)
    refine wp_loop_rounds 1 ?_
    rw [rounds_succ]
    go_wp2
    go_quiet (fail)
    go_wp2
    simp only [Exit.jump]
    go_ret2
    exact ⟨rfl, ((Chg.refl _ _).drewN _).drewN _⟩

set_option maxHeartbeats 1000000 in
theorem num_none_out (w : World) (b g : Nat) (xs : List UInt8) (p : Nat) (fa low high : Int) (h : Rdr w b g xs p 0 fa) (x : UInt8) (hx : xs[p]? = some x) (h0 : x.toNat = 0) (hr : 0 < low ∨ low ≤ 0 ∧ high < 0) :
    Calls Tryz.prog 122 #[.pointer (some ⟨b, 0, none⟩), .int .i64 low, .int .i64 high] w fun e w' => e = .returned (.tuple #[.int .i64 0, .int .i64 p]) ∧ Failed w w' b g xs p 5 p := by
  obtain ⟨A, c, h1, h2, h3⟩ := h
  have hp : p < xs.length := (List.getElem?_eq_some_iff.1 hx).1
  have hcap := h2.cap
  unfold maxLen at hcap
  have hne : ((p : Int) == xs.length) = false := by simp; omega
  obtain ⟨rfl, hc⟩ := h2.at_ h3 hx
  rw [h0] at hc
  have k1 := cell_of h1 1
  have k2 := cell_of h1 2
  have k3 := cell_of h1 3
  have k4 := cell_of h1 4
  have f3 := free_of h1 3
  have f4 := free_of h1 4
  simp only [List.getElem?_toArray, List.getElem?_cons_zero, List.getElem?_cons_succ] at k1 k2 k3 k4
  have H := Lib.hid h1
  have Hx := Lib.hid hx
  have H0 := Lib.hid h0
  clear h1 h3 hx h0
  rcases hr with hr | ⟨hr, hr2⟩
  all_goals
    go_enter Tryz.func122, Tryz.ntmps122
    go_wp2
    refine wp_scope_fwd 0 rfl ?_
    go_wp2
    iterate 4 (go_quiet (fail); go_wp2)
    all_goals
      iterate 2 (go_quiet (fail); go_wp2)
      refine wp_loop_rounds 1 ?_
      rw [rounds_succ]
      go_wp2
      go_quiet (fail)
      go_wp2
      go_step3
      refine And.intro rfl ?_
      show Code.wp _ _ _ _ _
      go_wp2
      go_quiet (fail)
      go_wp2
      simp only [Exit.jump]
      go_ret2
      exact ⟨rfl, failed_of H.out h2 (.inr rfl) _ _ _ _⟩
end
section
open Go.RowKit

theorem val_snoc (l : List UInt8) (c : UInt8) : val (l ++ [c]) = val l * 256 + c.toNat := by simp [val, List.foldl_append]
theorem val_nil : val [] = 0 := rfl
theorem val_lt : ∀ (k : Nat) (l : List UInt8), l.length = k → val l < 256 ^ k
  | 0, l, h => by
    have : l = [] := List.eq_nil_of_length_eq_zero h
    subst this; decide
  | k + 1, l, h => by
    obtain ⟨c, hc⟩ : ∃ c, l = l.take k ++ [c] := ⟨l[k]'(by omega), by rw [List.take_append_getElem]; exact (List.take_of_length_le (by omega)).symm⟩
    have hk := val_lt k (l.take k) (by simp; omega)
    have hb := c.toNat_lt
    rw [hc, val_snoc, Nat.pow_succ]
    omega
theorem take_more (l : List UInt8) (j : Nat) (h : j < l.length) : l.take (j + 1) = l.take j ++ [l.getD j 0] := by
  rw [List.take_succ_eq_append_getElem h]
  simp [List.getD, h]

/-- The number of the first j bytes behind the place. -/
def dv (xs : List UInt8) (p j : Nat) : Nat := val ((xs.drop (p + 1)).take j)
theorem dv_zero (xs : List UInt8) (p : Nat) : dv xs p 0 = 0 := by simp [dv, val_nil]
/-- The byte at a place. -/
def bt (xs : List UInt8) (j : Nat) : Nat := (xs.getD j 0).toNat
theorem bt_lt (xs : List UInt8) (j : Nat) : bt xs j < 256 := (xs.getD j 0).toNat_lt
theorem dv_succ (xs : List UInt8) (p j : Nat) (h : p + 1 + j < xs.length) : dv xs p (j + 1) = dv xs p j * 256 + bt xs (p + 1 + j) := by
  unfold dv bt
  rw [take_more _ _ (by simp; omega), val_snoc]
  congr 2
  simp [List.getD, List.getElem?_drop]
theorem dv_lt (xs : List UInt8) (p j : Nat) (h : p + 1 + j ≤ xs.length) : dv xs p j < 256 ^ j := val_lt j _ (by simp; omega)
theorem dv_lt8 (xs : List UInt8) (p j : Nat) (h : p + 1 + j ≤ xs.length) (hj : j ≤ 8) : dv xs p j ≤ 18446744073709551615 := by
  have h1 := dv_lt xs p j h
  have h2 : 256 ^ j ≤ 256 ^ 8 := Nat.pow_le_pow_right (by omega) hj
  have h3 : 256 ^ 8 = 18446744073709551616 := by decide
  omega

theorem or_join (a b : Nat) (h : a * 256 + b ≤ 18446744073709551615) (hb : b < 256) : bits .or .u64 ((a : Int) * 256) (b : Int) = ((a * 256 + b : Nat) : Int) := by
  rw [show (a : Int) * 256 = ((a * 256 : Nat) : Int) by omega, u64_or_nat _ _ (by omega) (by omega), nat_join 8 _ _ (by omega) (by omega)]

set_option maxHeartbeats 1000000 in
theorem num_digits (w : World) (b g : Nat) (xs : List UInt8) (p : Nat) (fa low high : Int) (h : Rdr w b g xs p 0 fa) (hl : xs.length ≤ 140737488351232) (x : UInt8) (hx : xs[p]? = some x) (h8 : (x.toNat : Int) ≤ 8) (hs : x.toNat ≤ xs.length - (p + 1)) (h0 : 0 < x.toNat) (hz : bt xs (p + 1) ≠ 0)
    (hv : dv xs p x.toNat ≤ 4611686018427387903) (hr : low ≤ dv xs p x.toNat) (hr2 : dv xs p x.toNat ≤ high) :
    Calls Tryz.prog 122 #[.pointer (some ⟨b, 0, none⟩), .int .i64 low, .int .i64 high] w fun e w' => e = .returned (.tuple #[.int .i64 (dv xs p x.toNat), .int .i64 ((p : Int) + 1 + x.toNat)]) ∧ Chg [] w w' := by
  obtain ⟨A, c, h1, h2, h3⟩ := h
  have hp : p < xs.length := (List.getElem?_eq_some_iff.1 hx).1
  have hcap := h2.cap
  unfold maxLen at hcap
  have hne : ((p : Int) == xs.length) = false := by simp; omega
  have hcc : ¬ c = p + 1 := by omega
  obtain ⟨rfl, hc⟩ := h2.at_ h3 hx
  have hcell : ∀ j, p + 1 + j < xs.length → w.cell? ⟨g, p + 1 + j, none⟩ = some (.int .u8 (bt xs (p + 1 + j) : Int)) := fun j hj => by
    have e : xs[p + 1 + j]? = some (xs.getD (p + 1 + j) 0) := by simp [List.getD, hj]
    exact (h2.at_ h3 e).2
  have hc2 := hcell 0 (by omega)
  rw [Nat.add_zero] at hc2
  have hz0 : ((bt xs (p + 1) : Int) == 0) = false := by simp only [beq_eq_false_iff_ne, ne_eq]; omega
  have k1 := cell_of h1 1
  have k2 := cell_of h1 2
  simp only [List.getElem?_toArray, List.getElem?_cons_zero, List.getElem?_cons_succ] at k1 k2
  have H := Lib.hid h1
  have Hx := Lib.hid hx
  have Hc := Lib.hid hcell
  clear h1 h3 hx hz hcell
  go_enter Tryz.func122, Tryz.ntmps122
  go_wp2
  refine wp_scope_fwd 0 rfl ?_
  go_wp2
  iterate 6 (go_quiet (fail); go_wp2)
  clear hc2 hz0
  go_loop [8, 95] (fun n i => ∃ j : Nat, j ≤ x.toNat ∧ i = .int .i64 j ∧ n = .int .u64 (dv xs p j)) (fun _ i => x.toNat - (intOf i).toNat)
  case atStart => exact ⟨0, by omega, rfl, by rw [dv_zero]; rfl⟩
  case round =>
    obtain ⟨j, hj, rfl, rfl⟩ := hrel
    by_cases hlt : j < x.toNat
    · have hcj := Hc.out j (by omega)
      have hbj := dv_lt8 xs p (j + 1) (by omega) (by omega)
      rw [dv_succ xs p j (by omega)] at hbj
      have hbb := bt_lt xs (p + 1 + j)
      go_wp2
      go_round
      case rel => exact ⟨j + 1, by omega, by go_num, by rw [or_join _ _ hbj hbb, ← dv_succ xs p j (by omega)]⟩
      case measure => simp [intOf]; omega
    · obtain rfl : j = x.toNat := by omega
      go_wp2
      go_quiet (fail)
      go_wp2
      simp only [Exit.jump]
      go_ret2
      exact ⟨rfl, ((Chg.refl _ _).drewN _).drewN _⟩
set_option maxHeartbeats 1000000 in
theorem num_digits_out (w : World) (b g : Nat) (xs : List UInt8) (p : Nat) (fa low high : Int) (h : Rdr w b g xs p 0 fa) (hl : xs.length ≤ 140737488351232) (x : UInt8) (hx : xs[p]? = some x) (h8 : (x.toNat : Int) ≤ 8) (hs : x.toNat ≤ xs.length - (p + 1)) (h0 : 0 < x.toNat) (hz : bt xs (p + 1) ≠ 0)
    (hv : 4611686018427387903 < dv xs p x.toNat ∨ dv xs p x.toNat ≤ 4611686018427387903 ∧ (dv xs p x.toNat : Int) < low ∨ dv xs p x.toNat ≤ 4611686018427387903 ∧ low ≤ dv xs p x.toNat ∧ high < dv xs p x.toNat) :
    Calls Tryz.prog 122 #[.pointer (some ⟨b, 0, none⟩), .int .i64 low, .int .i64 high] w fun e w' => e = .returned (.tuple #[.int .i64 0, .int .i64 p]) ∧ Failed w w' b g xs p 5 p := by
  obtain ⟨A, c, h1, h2, h3⟩ := h
  have hp : p < xs.length := (List.getElem?_eq_some_iff.1 hx).1
  have hcap := h2.cap
  unfold maxLen at hcap
  have hne : ((p : Int) == xs.length) = false := by simp; omega
  have hcc : ¬ c = p + 1 := by omega
  obtain ⟨rfl, hc⟩ := h2.at_ h3 hx
  have hcell : ∀ j, p + 1 + j < xs.length → w.cell? ⟨g, p + 1 + j, none⟩ = some (.int .u8 (bt xs (p + 1 + j) : Int)) := fun j hj => by
    have e : xs[p + 1 + j]? = some (xs.getD (p + 1 + j) 0) := by simp [List.getD, hj]
    exact (h2.at_ h3 e).2
  have hc2 := hcell 0 (by omega)
  rw [Nat.add_zero] at hc2
  have hz0 : ((bt xs (p + 1) : Int) == 0) = false := by simp only [beq_eq_false_iff_ne, ne_eq]; omega
  have k1 := cell_of h1 1
  have k2 := cell_of h1 2
  have k3 := cell_of h1 3
  have k4 := cell_of h1 4
  have f3 := free_of h1 3
  have f4 := free_of h1 4
  simp only [List.getElem?_toArray, List.getElem?_cons_zero, List.getElem?_cons_succ] at k1 k2 k3 k4
  have H := Lib.hid h1
  have Hx := Lib.hid hx
  have Hc := Lib.hid hcell
  clear h1 h3 hx hz hcell
  go_enter Tryz.func122, Tryz.ntmps122
  go_wp2
  refine wp_scope_fwd 0 rfl ?_
  go_wp2
  iterate 6 (go_quiet (fail); go_wp2)
  clear hc2 hz0
  go_loop [8, 95] (fun n i => ∃ j : Nat, j ≤ x.toNat ∧ i = .int .i64 j ∧ n = .int .u64 (dv xs p j)) (fun _ i => x.toNat - (intOf i).toNat)
  case atStart => exact ⟨0, by omega, rfl, by rw [dv_zero]; rfl⟩
  case round =>
    obtain ⟨j, hj, rfl, rfl⟩ := hrel
    by_cases hlt : j < x.toNat
    · have hcj := Hc.out j (by omega)
      have hbj := dv_lt8 xs p (j + 1) (by omega) (by omega)
      rw [dv_succ xs p j (by omega)] at hbj
      have hbb := bt_lt xs (p + 1 + j)
      go_wp2
      go_round
      case rel => exact ⟨j + 1, by omega, by go_num, by rw [or_join _ _ hbj hbb, ← dv_succ xs p j (by omega)]⟩
      case measure => simp [intOf]; omega
    · obtain rfl : j = x.toNat := by omega
      rcases hv with hv | ⟨hv, hv2⟩ | ⟨hv, hv2, hv3⟩
      all_goals
        go_wp2
        go_quiet (fail)
        go_wp2
        go_step3
        refine And.intro rfl ?_
        show Code.wp _ _ _ _ _
        go_wp2
        go_quiet (fail)
        go_wp2
        simp only [Exit.jump]
        go_ret2
        exact ⟨rfl, failed_of H.out h2 (.inr rfl) _ _ _ _⟩
end
section
open Go.RowKit

/-- What is read at a place: a fault and where, or a number and where it ends. -/
def numAt (xs : List UInt8) (p : Nat) (low high : Int) : Except (Nat × Nat) (Nat × Nat) :=
  if p = xs.length then .error (4, xs.length)
  else if 8 < bt xs p then .error (2, p)
  else if xs.length - (p + 1) < bt xs p then .error (4, xs.length)
  else if 0 < bt xs p ∧ bt xs (p + 1) = 0 then .error (2, p)
  else if 4611686018427387903 < dv xs p (bt xs p) ∨ (dv xs p (bt xs p) : Int) < low ∨ high < (dv xs p (bt xs p) : Int) then .error (5, p)
  else .ok (dv xs p (bt xs p), p + 1 + bt xs p)

/-- What the inner number leaves. -/
def NumPost (w : World) (b g : Nat) (xs : List UInt8) (p : Nat) (low high : Int) (e : Ending) (w' : World) : Prop :=
  (∀ f q, numAt xs p low high = .error (f, q) → e = .returned (.tuple #[.int .i64 0, .int .i64 p]) ∧ Failed w w' b g xs p f q) ∧
  (∀ v q, numAt xs p low high = .ok (v, q) → e = .returned (.tuple #[.int .i64 v, .int .i64 q]) ∧ Chg [] w w')

theorem post_err {w w' : World} {b g : Nat} {xs : List UInt8} {p : Nat} {low high : Int} {e : Ending} {f q : Nat} (h : numAt xs p low high = .error (f, q)) (he : e = .returned (.tuple #[.int .i64 0, .int .i64 p]) ∧ Failed w w' b g xs p f q) : NumPost w b g xs p low high e w' :=
  ⟨fun f' q' h' => (by rw [h] at h'; cases h'; exact he), fun v q' h' => (by rw [h] at h'; cases h')⟩
theorem post_ok {w w' : World} {b g : Nat} {xs : List UInt8} {p : Nat} {low high : Int} {e : Ending} {v q : Nat} (h : numAt xs p low high = .ok (v, q)) (he : e = .returned (.tuple #[.int .i64 v, .int .i64 q]) ∧ Chg [] w w') : NumPost w b g xs p low high e w' :=
  ⟨fun f' q' h' => (by rw [h] at h'; cases h'), fun v' q' h' => (by rw [h] at h'; cases h'; exact he)⟩

theorem rnumber_any (w : World) (b g : Nat) (xs : List UInt8) (p : Nat) (fa low high : Int) (h : Rdr w b g xs p 0 fa) (hp : p ≤ xs.length) (hl : xs.length ≤ 140737488351232) :
    Calls Tryz.prog 122 #[.pointer (some ⟨b, 0, none⟩), .int .i64 low, .int .i64 high] w (NumPost w b g xs p low high) := by
  by_cases h1 : p = xs.length
  · subst h1
    refine (num_end w b g xs fa low high h).mono fun e w' he => post_err (f := 4) (q := xs.length) ?_ he
    simp only [numAt, if_pos]
  obtain ⟨x, hx⟩ : ∃ x, xs[p]? = some x := ⟨xs[p]'(by omega), List.getElem?_eq_getElem (by omega)⟩
  have hb : bt xs p = x.toNat := by simp [bt, List.getD, hx]
  by_cases h2 : 8 < bt xs p
  · refine (num_arg w b g xs p fa low high h x hx (by omega)).mono fun e w' he => post_err (f := 2) (q := p) ?_ he
    simp only [numAt, if_neg h1, if_pos h2]
  by_cases h3 : xs.length - (p + 1) < bt xs p
  · refine (num_short w b g xs p fa low high h hl x hx (by omega) (by omega)).mono fun e w' he => post_err (f := 4) (q := xs.length) ?_ he
    simp only [numAt, if_neg h1, if_neg h2, if_pos h3]
  by_cases h4 : 0 < bt xs p ∧ bt xs (p + 1) = 0
  · have hz : xs[p + 1]? = some 0 := by
      have hlt : p + 1 < xs.length := by omega
      rw [List.getElem?_eq_getElem hlt]
      have := h4.2
      simp only [bt, List.getD, List.getElem?_eq_getElem hlt, Option.getD_some] at this
      congr 1
      exact UInt8.toNat_inj.1 this
    refine (num_zero w b g xs p fa low high h hl x hx (by omega) (by omega) (by omega) hz).mono fun e w' he => post_err (f := 2) (q := p) ?_ he
    simp only [numAt, if_neg h1, if_neg h2, if_neg h3, if_pos h4]
  by_cases h5 : 4611686018427387903 < dv xs p (bt xs p) ∨ (dv xs p (bt xs p) : Int) < low ∨ high < (dv xs p (bt xs p) : Int)
  · have hn : numAt xs p low high = .error (5, p) := by simp only [numAt, if_neg h1, if_neg h2, if_neg h3, if_neg h4, if_pos h5]
    by_cases h6 : bt xs p = 0
    · rw [h6, dv_zero] at h5
      exact (num_none_out w b g xs p fa low high h x hx (by omega) (by omega)).mono fun e w' he => post_err hn he
    · rw [hb] at h5
      exact (num_digits_out w b g xs p fa low high h hl x hx (by omega) (by omega) (by omega) (by omega) (by omega)).mono fun e w' he => post_err hn he
  · have hn : numAt xs p low high = .ok (dv xs p (bt xs p), p + 1 + bt xs p) := by simp only [numAt, if_neg h1, if_neg h2, if_neg h3, if_neg h4, if_neg h5]
    by_cases h6 : bt xs p = 0
    · rw [h6, dv_zero] at h5 hn
      exact (num_none w b g xs p fa low high h hl x hx (by omega) (by omega) (by omega)).mono fun e w' he => post_ok hn (by simpa using he)
    · rw [hb] at h5 hn
      exact (num_digits w b g xs p fa low high h hl x hx (by omega) (by omega) (by omega) (by omega) (by omega) (by omega) (by omega)).mono fun e w' he => post_ok hn (by simpa using he)

theorem numAt_ok {xs : List UInt8} {p : Nat} {low high : Int} {v q : Nat} (h : numAt xs p low high = .ok (v, q)) (hp : p ≤ xs.length) : q ≤ xs.length ∧ p < q ∧ v ≤ 4611686018427387903 ∧ low ≤ v ∧ v ≤ high := by
  unfold numAt at h
  repeat (split at h; · cases h)
  cases h
  omega

theorem numAt_err {xs : List UInt8} {p : Nat} {low high : Int} {f q : Nat} (h : numAt xs p low high = .error (f, q)) : f ≠ 0 := by
  unfold numAt at h
  repeat (split at h; · (cases h; decide))
  cases h

/-- What a reader is behind a number that is asked for: its place, its fault. -/
def rNum (xs : List UInt8) (p : Nat) (fe fa : Int) (low high : Int) : Int × Nat × Int × Int :=
  if fe ≠ 0 then (0, p, fe, fa) else match numAt xs p low high with
    | .error (f, q) => (0, p, (f : Int), (q : Int))
    | .ok (v, q) => ((v : Int), q, 0, fa)

theorem Rdr.place {w : World} {b g : Nat} {xs : List UInt8} {p q : Nat} {fe fa : Int} (h : Rdr w b g xs p fe fa) : Rdr (w.setCell ⟨b, 2, none⟩ (.int .i64 q)) b g xs q fe fa ∧ Chg [b] w (w.setCell ⟨b, 2, none⟩ (.int .i64 q)) := by
  obtain ⟨A, c, h1, h2, h3⟩ := h
  have hne := h2.ne h1 (by decide)
  have q1 := heap_setCell_same w b 2 _ _ (.int .i64 q) h1
  refine ⟨⟨A, c, by simpa using q1, h2.keep fun g o eA ho => ?_, h3⟩, (Chg.refl _ _).setCell (by simp) _⟩
  rw [Below.heap_setCell _ _ _ _ (hne _ eA)]; exact ho

theorem rreads_yes (w : World) (b g : Nat) (xs : List UInt8) (p : Nat) (fa : Int) (h : Rdr w b g xs p 0 fa) :
    Calls Tryz.prog 121 #[.pointer (some ⟨b, 0, none⟩)] w fun e w' => e = .returned (.bool true) ∧ w = w' := rreads_any w b g xs p 0 fa h
theorem rreads_no (w : World) (b g : Nat) (xs : List UInt8) (p : Nat) (fe fa : Int) (h : Rdr w b g xs p fe fa) (he : fe ≠ 0) :
    Calls Tryz.prog 121 #[.pointer (some ⟨b, 0, none⟩)] w fun e w' => e = .returned (.bool false) ∧ w = w' := by
  have := rreads_any w b g xs p fe fa h
  rwa [show (fe == 0) = false by simpa using he] at this

set_option maxHeartbeats 400000 in
theorem rnum_no (w : World) (b g : Nat) (xs : List UInt8) (p : Nat) (fe fa low high : Int) (h : Rdr w b g xs p fe fa) (he : fe ≠ 0) :
    Calls Tryz.prog 76 #[.pointer (some ⟨b, 0, none⟩), .int .i64 low, .int .i64 high] w fun e w' => e = .returned (.int .i64 0) ∧ w = w' := by
  have H := Lib.hid he
  clear he
  go_enter Tryz.func76, Tryz.ntmps76
  go_wp2_with (go_at_call 121; refine (rreads_no _ b g xs p fe fa h H.out).mono ?_; rintro r w' ⟨rfl, rfl⟩)
  go_ret
  exact ⟨rfl, rfl⟩

set_option maxHeartbeats 400000 in
theorem rnum_err (w : World) (b g : Nat) (xs : List UInt8) (p : Nat) (fa low high : Int) (h : Rdr w b g xs p 0 fa) (hp : p ≤ xs.length) (hl : xs.length ≤ 140737488351232) (f q : Nat) (hn : numAt xs p low high = .error (f, q)) :
    Calls Tryz.prog 76 #[.pointer (some ⟨b, 0, none⟩), .int .i64 low, .int .i64 high] w fun e w' => e = .returned (.int .i64 0) ∧ Failed w w' b g xs p f q := by
  have H := Lib.hid hn
  clear hn
  go_enter Tryz.func76, Tryz.ntmps76
  go_wp2_with (first
    | (go_at_call 121; refine (rreads_yes _ b g xs p fa h).mono ?_; rintro r w' ⟨rfl, rfl⟩)
    | (go_at_call 122; refine (rnumber_any _ b g xs p fa low high h hp hl).mono ?_; rintro r w1 hpost; obtain ⟨rfl, hf⟩ := hpost.1 _ _ H.out; clear hpost; obtain ⟨A1, c1, i1, i2, i3⟩ := id hf.1; have k2 := cell_of i1 2; have k3 := free_of i1 2; simp only [List.getElem?_toArray, List.getElem?_cons_zero, List.getElem?_cons_succ] at k2; have HF := Lib.hid hf; have I3 := Lib.hid i3; have I1 := Lib.hid i1; clear hf i1 i3))
  go_ret
  have hp2 := (HF.out.1.place (q := p))
  exact ⟨rfl, hp2.1, HF.out.2.trans hp2.2⟩

set_option maxHeartbeats 400000 in
theorem rnum_ok (w : World) (b g : Nat) (xs : List UInt8) (p : Nat) (fa low high : Int) (h : Rdr w b g xs p 0 fa) (hp : p ≤ xs.length) (hl : xs.length ≤ 140737488351232) (v q : Nat) (hn : numAt xs p low high = .ok (v, q)) :
    Calls Tryz.prog 76 #[.pointer (some ⟨b, 0, none⟩), .int .i64 low, .int .i64 high] w fun e w' => e = .returned (.int .i64 v) ∧ Rdr w' b g xs q 0 fa ∧ Chg [b] w w' := by
  have H := Lib.hid hn
  clear hn
  go_enter Tryz.func76, Tryz.ntmps76
  go_wp2_with (first
    | (go_at_call 121; refine (rreads_yes _ b g xs p fa h).mono ?_; rintro r w' ⟨rfl, rfl⟩)
    | (go_at_call 122; refine (rnumber_any _ b g xs p fa low high h hp hl).mono ?_; rintro r w1 hpost; obtain ⟨rfl, hf⟩ := hpost.2 _ _ H.out; clear hpost; have hr1 := h.chg hf (by simp) (by simp); obtain ⟨A1, c1, i1, i2, i3⟩ := id hr1; have k2 := cell_of i1 2; have k3 := free_of i1 2; simp only [List.getElem?_toArray, List.getElem?_cons_zero, List.getElem?_cons_succ] at k2; have HF := Lib.hid hf; have I3 := Lib.hid i3; have I1 := Lib.hid i1; clear hf i1 i3))
  go_ret
  have hp2 := hr1.place (q := q)
  exact ⟨rfl, hp2.1, (HF.out.mono (by simp)).trans hp2.2⟩

/-- Num, whatever came ahead. -/
theorem rnum_any (w : World) (b g : Nat) (xs : List UInt8) (p : Nat) (fe fa low high : Int) (h : Rdr w b g xs p fe fa) (hp : p ≤ xs.length) (hl : xs.length ≤ 140737488351232) :
    Calls Tryz.prog 76 #[.pointer (some ⟨b, 0, none⟩), .int .i64 low, .int .i64 high] w fun e w' => e = .returned (.int .i64 (rNum xs p fe fa low high).1) ∧ Rdr w' b g xs (rNum xs p fe fa low high).2.1 (rNum xs p fe fa low high).2.2.1 (rNum xs p fe fa low high).2.2.2 ∧ Chg [b] w w' := by
  unfold rNum
  by_cases he : fe = 0
  · subst he
    simp only [ne_eq, not_true_eq_false, if_false]
    cases hn : numAt xs p low high with
    | error x => obtain ⟨f, q⟩ := x; exact (rnum_err w b g xs p fa low high h hp hl f q hn).mono fun e w' he => ⟨he.1, he.2.1, he.2.2⟩
    | ok x => obtain ⟨v, q⟩ := x; exact rnum_ok w b g xs p fa low high h hp hl v q hn
  · simp only [ne_eq, he, not_false_eq_true, if_true]
    exact (rnum_no w b g xs p fe fa low high h he).mono fun e w' ⟨h1, h2⟩ => ⟨h1, h2 ▸ h, h2 ▸ Chg.refl _ _⟩
end
section
open Go.RowKit

set_option maxHeartbeats 400000 in
theorem piece_no (w : World) (b g : Nat) (xs : List UInt8) (p : Nat) (fe fa most : Int) (h : Rdr w b g xs p fe fa) (he : fe ≠ 0) :
    Calls Tryz.prog 123 #[.pointer (some ⟨b, 0, none⟩), .int .i64 most] w fun e w' => e = .returned (.slice none 0 0) ∧ w = w' := by
  have H := Lib.hid he
  clear he
  go_enter Tryz.func123, Tryz.ntmps123
  go_wp2
  refine wp_scope_fwd 0 rfl ?_
  go_wp2_with (go_at_call 121; refine (rreads_no _ b g xs p fe fa h H.out).mono ?_; rintro r w' ⟨rfl, rfl⟩)
  simp only [Exit.jump]
  go_ret
  exact ⟨rfl, rfl⟩

set_option maxHeartbeats 400000 in
theorem piece_err (w : World) (b g : Nat) (xs : List UInt8) (p : Nat) (fa most : Int) (h : Rdr w b g xs p 0 fa) (hp : p ≤ xs.length) (hl : xs.length ≤ 140737488351232) (f q : Nat) (hn : numAt xs p 0 4611686018427387903 = .error (f, q)) :
    Calls Tryz.prog 123 #[.pointer (some ⟨b, 0, none⟩), .int .i64 most] w fun e w' => e = .returned (.slice none 0 0) ∧ Failed w w' b g xs p f q := by
  have H := Lib.hid hn
  have hf0 : ((f : Int) != 0) = true := by have := numAt_err hn; simp; omega
  clear hn
  go_enter Tryz.func123, Tryz.ntmps123
  go_wp2
  refine wp_scope_fwd 0 rfl ?_
  go_wp2_with (first
    | (go_at_call 121; refine (rreads_yes _ b g xs p fa h).mono ?_; rintro r w' ⟨rfl, rfl⟩)
    | (go_at_call 122; refine (rnumber_any _ b g xs p fa _ _ h hp hl).mono ?_; rintro r w1 hpost; obtain ⟨rfl, hf⟩ := hpost.1 _ _ H.out; clear hpost; obtain ⟨A1, c1, i1, i2, i3⟩ := id hf.1; have k2 := cell_of i1 3; simp only [List.getElem?_toArray, List.getElem?_cons_zero, List.getElem?_cons_succ] at k2; have HF := Lib.hid hf; have I3 := Lib.hid i3; have I1 := Lib.hid i1; clear hf i1 i3))
  simp only [Exit.jump]
  go_ret
  exact ⟨rfl, HF.out⟩

theorem failed_after {w w1 : World} {b g : Nat} {xs : List UInt8} {p : Nat} {A : Option Addr} {c : Nat} {fe0 fa0 : Int} (hc : Chg [] w w1) (h1 : w1.heap[b]? = some (.cells #[.pointer (some ⟨b, 0, none⟩), .slice A xs.length c, .int .i64 p, .int .i64 fe0, .int .i64 fa0] 122 (0, 0)))
    (h2 : OwnB w1 A c xs) (h3 : A = none ∧ g = b ∨ A = some ⟨g, 0, none⟩) (n m : Nat) (fe fa : Int) :
    Failed w ((((w1.drewN n).setCell ⟨b, 3, none⟩ (.int .i64 fe)).setCell ⟨b, 4, none⟩ (.int .i64 fa)).drewN m) b g xs p fe fa := by
  have := failed_of h1 h2 h3 n m fe fa
  exact ⟨this.1, (hc.mono (by simp)).trans this.2⟩

set_option maxHeartbeats 400000 in
theorem piece_long (w : World) (b g : Nat) (xs : List UInt8) (p : Nat) (fa most : Int) (h : Rdr w b g xs p 0 fa) (hp : p ≤ xs.length) (hl : xs.length ≤ 140737488351232) (n q : Nat) (hn : numAt xs p 0 4611686018427387903 = .ok (n, q)) (hm : most < n) :
    Calls Tryz.prog 123 #[.pointer (some ⟨b, 0, none⟩), .int .i64 most] w fun e w' => e = .returned (.slice none 0 0) ∧ Failed w w' b g xs p 3 p := by
  have hb := numAt_ok hn hp
  have H := Lib.hid hn
  clear hn
  go_enter Tryz.func123, Tryz.ntmps123
  go_wp2
  refine wp_scope_fwd 0 rfl ?_
  go_wp2_with (first
    | (go_at_call 121; refine (rreads_yes _ b g xs p fa h).mono ?_; rintro r w' ⟨rfl, rfl⟩)
    | (go_at_call 122; refine (rnumber_any _ b g xs p fa _ _ h hp hl).mono ?_; rintro r w1 hpost; obtain ⟨rfl, hf⟩ := hpost.2 _ _ H.out; clear hpost; have hr1 := h.chg hf (by simp) (by simp); obtain ⟨A1, c1, i1, i2, i3⟩ := id hr1; have k1 := cell_of i1 1; have k2 := cell_of i1 2; have k3 := cell_of i1 3; have k4 := cell_of i1 4; have f3 := free_of i1 3; have f4 := free_of i1 4; simp only [List.getElem?_toArray, List.getElem?_cons_zero, List.getElem?_cons_succ] at k1 k2 k3 k4; have HF := Lib.hid hf; have I3 := Lib.hid i3; have I1 := Lib.hid i1; clear hf i1 i3))
  go_step3
  refine And.intro rfl ?_
  show Code.wp _ _ _ _ _
  go_wp2
  simp only [Exit.jump]
  go_ret
  exact ⟨rfl, failed_after HF.out I1.out i2 I3.out 0 0 _ _⟩
set_option maxHeartbeats 400000 in
theorem piece_end (w : World) (b g : Nat) (xs : List UInt8) (p : Nat) (fa most : Int) (h : Rdr w b g xs p 0 fa) (hp : p ≤ xs.length) (hl : xs.length ≤ 140737488351232) (n q : Nat) (hn : numAt xs p 0 4611686018427387903 = .ok (n, q)) (hm : (n : Int) ≤ most) (hm2 : (xs.length : Int) - q < n) :
    Calls Tryz.prog 123 #[.pointer (some ⟨b, 0, none⟩), .int .i64 most] w fun e w' => e = .returned (.slice none 0 0) ∧ Failed w w' b g xs p 4 xs.length := by
  have hb := numAt_ok hn hp
  have H := Lib.hid hn
  clear hn
  go_enter Tryz.func123, Tryz.ntmps123
  go_wp2
  refine wp_scope_fwd 0 rfl ?_
  go_wp2_with (first
    | (go_at_call 121; refine (rreads_yes _ b g xs p fa h).mono ?_; rintro r w' ⟨rfl, rfl⟩)
    | (go_at_call 122; refine (rnumber_any _ b g xs p fa _ _ h hp hl).mono ?_; rintro r w1 hpost; obtain ⟨rfl, hf⟩ := hpost.2 _ _ H.out; clear hpost; have hr1 := h.chg hf (by simp) (by simp); obtain ⟨A1, c1, i1, i2, i3⟩ := id hr1; have k1 := cell_of i1 1; have k2 := cell_of i1 2; have k3 := cell_of i1 3; have k4 := cell_of i1 4; have f3 := free_of i1 3; have f4 := free_of i1 4; simp only [List.getElem?_toArray, List.getElem?_cons_zero, List.getElem?_cons_succ] at k1 k2 k3 k4; have HF := Lib.hid hf; have I3 := Lib.hid i3; have I1 := Lib.hid i1; clear hf i1 i3))
  go_quiet (fail)
  go_wp2
  go_step3
  refine And.intro rfl ?_
  show Code.wp _ _ _ _ _
  go_wp2
  simp only [Exit.jump]
  go_ret
  exact ⟨rfl, failed_after HF.out I1.out i2 I3.out _ 0 _ _⟩
theorem piece_bs {w : World} {A : Option Addr} {c : Nat} {xs : List UInt8} (own : OwnB w A c xs) (n q : Nat) (h : q + n ≤ xs.length) : Bs w (A.map (fun x => x.add q)) n ((xs.drop q).take n) := by
  refine ⟨by simp; omega, fun j u hj => ?_⟩
  rw [List.getElem?_take] at hj
  split at hj
  · rw [List.getElem?_drop] at hj
    obtain ⟨a, e, hc⟩ := own.reads.cells (q + j) u hj
    rcases own.form with ⟨rfl, _⟩ | ⟨g, cur, rfl, _⟩
    · cases e
    · cases e
      refine ⟨⟨g, q, none⟩, by simp [add_zero_lit], ?_⟩
      rw [add_zero_lit] at hc
      rw [add_lit]; exact hc
  · cases hj

/-- What the piece is, and what the reader is behind it. -/
def Piece (w w' : World) (b g : Nat) (xs : List UInt8) (n q : Nat) (fa : Int) (e : Ending) : Prop :=
  ∃ A c, e = .returned (.slice A n c) ∧ Bs w' A n ((xs.drop q).take n) ∧ (∀ a, A = some a → a.block = g) ∧ Rdr w' b g xs (q + n) 0 fa ∧ Chg [b] w w'

theorem piece_fin {w w1 : World} {b g : Nat} {xs : List UInt8} {p n q : Nat} {fa : Int} {A : Option Addr} {c : Nat} (hc : Chg [] w w1) (h : Rdr w1 b g xs p 0 fa) (h1 : w1.heap[b]? = some (.cells #[.pointer (some ⟨b, 0, none⟩), .slice A xs.length c, .int .i64 p, .int .i64 0, .int .i64 fa] 122 (0, 0)))
    (own : OwnB w1 A c xs) (h3 : A = none ∧ g = b ∨ A = some ⟨g, 0, none⟩) (hq : q + n ≤ xs.length) (m : Nat) (B : Option Addr) (d : Nat) (hB : B = A.map (fun x => x.add q) ∨ n = 0 ∧ B = A) :
    Piece w ((w1.setCell ⟨b, 2, none⟩ (.int .i64 ((q : Int) + n))).drewN m) b g xs n q fa (.returned (.slice B n d)) := by
  have hp := h.place (q := q + n)
  have hne := own.ne h1 (by decide)
  have hg : ∀ a, A = some a → a.block = g := by
    rintro a rfl
    rcases h3 with ⟨h3, _⟩ | h3
    · cases h3
    · cases h3; rfl
  have hs : Chg [b] w1 ((w1.setCell ⟨b, 2, none⟩ (.int .i64 ((q : Int) + n))).drewN m) := hp.2.drewN m
  refine ⟨B, d, rfl, ?_, ?_, hp.1.drewN m, (hc.mono (by simp)).trans hs⟩
  · rcases hB with rfl | ⟨rfl, rfl⟩
    · refine (piece_bs own n q hq).chg hs ?_
      rintro a e
      cases A with
      | none => cases e
      | some a0 =>
        simp at e
        subst e
        rw [block_add]
        simpa using hne _ rfl
    · simpa using Bs.nil _ B
  · rintro a rfl
    rcases hB with hB | ⟨_, hB⟩
    · cases A with
      | none => cases hB
      | some a0 =>
        simp at hB
        subst hB
        rw [block_add]
        exact hg _ rfl
    · exact hg a hB.symm

set_option maxHeartbeats 400000 in
theorem piece_ok (w : World) (b g : Nat) (xs : List UInt8) (p : Nat) (fa most : Int) (h : Rdr w b g xs p 0 fa) (hp : p ≤ xs.length) (hl : xs.length ≤ 140737488351232) (n q : Nat) (hn : numAt xs p 0 4611686018427387903 = .ok (n, q)) (hm : (n : Int) ≤ most) (hm2 : (n : Int) ≤ xs.length - q) :
    Calls Tryz.prog 123 #[.pointer (some ⟨b, 0, none⟩), .int .i64 most] w fun e w' => Piece w w' b g xs n q fa e := by
  have hb := numAt_ok hn hp
  have H := Lib.hid hn
  clear hn
  go_enter Tryz.func123, Tryz.ntmps123
  go_wp2
  refine wp_scope_fwd 0 rfl ?_
  go_wp2_with (first
    | (go_at_call 121; refine (rreads_yes _ b g xs p fa h).mono ?_; rintro r w' ⟨rfl, rfl⟩)
    | (go_at_call 122; refine (rnumber_any _ b g xs p fa _ _ h hp hl).mono ?_; rintro r w1 hpost; obtain ⟨rfl, hf⟩ := hpost.2 _ _ H.out; clear hpost; have hr1 := h.chg hf (by simp) (by simp); obtain ⟨A1, c1, i1, i2, i3⟩ := id hr1; have k1 := cell_of i1 1; have k2 := cell_of i1 2; have k3 := cell_of i1 3; have hcap := i2.cap; unfold maxLen at hcap; have f2 := free_of i1 2; simp only [List.getElem?_toArray, List.getElem?_cons_zero, List.getElem?_cons_succ] at k1 k2 k3; have HF := Lib.hid hf; have I3 := Lib.hid i3; have I1 := Lib.hid i1; clear hf i1 i3))
  go_quiet (fail)
  go_wp2
  · simp only [Exit.jump]
    go_ret
    have e0 : n = 0 := by omega
    exact piece_fin HF.out hr1 I1.out i2 I3.out (by omega) _ _ _ (.inr ⟨e0, rfl⟩)
  · simp only [Exit.jump]
    go_ret
    exact piece_fin HF.out hr1 I1.out i2 I3.out (by omega) _ _ _ (.inl rfl)
end
end Go.Proofs.YtgbidlhgmeglmaaGreatDoor
