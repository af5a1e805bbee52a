/- The writer's Raw, Text and Out. bytes.Clone, the kit's copy, and the writer's Out; the writer's calls whatever came ahead. The kit's functions on bytes: same, lent, kept, written over. cmp.Compare at int, bytes.Compare, cmp.Or at three ints. Package dot: Check, compare, Less, Next; the document's Check, Less, Next. Package dot: compare, Less, Next; the document's Less, Next. Dots in slices: the kit's functions on them. Spans in slices: the functions of the kit on them. past.stands, past.apart. past.Check. The pasts that may be, as lists of spans in order. No memory here. What is joined, and left: plain functions. No function of the program is named here. -/
import Derived.Test.YtgafkaigkaghcaaGreatDoorZeaa
import Derived.Lib.BytesEntry
import Derived.Deep.RegionHeld3
import Derived.Deep.QuietTactic
import Derived.BigQuiet
import Derived.RegionTactic
import Derived.Deep.Cut
namespace Go.Proofs.YtgafkaigkaghcaaGreatDoor
section
open Go.RowKit

theorem enc_room (xs : List UInt8) (m : Nat) (_h : xs.length ≤ 1048576) (hl : 1 + nb m + m + xs.length ≤ 1048576) : (xs ++ enc (m : Int).toNat).length + m ≤ 140737488355327 := by
  rw [List.length_append, enc_len, Int.toNat_natCast]; omega

set_option maxHeartbeats 400000 in
theorem wraw_err (w : World) (b g : Nat) (xs : List UInt8) (e : Int) (B : Option Addr) (m d : Nat) (h : Wrt w b g xs e) (he : (e == 0) = false) :
    Calls Tryz.prog 39 #[.pointer (some ⟨b, 0, none⟩), .slice B m d] w fun r w' => r = .returned (.tuple #[]) ∧ w = w' := by
  obtain ⟨A, c, h1, _, _⟩ := id h
  have h0 := cell_of h1 2
  simp only [List.getElem?_toArray, List.getElem?_cons_zero, List.getElem?_cons_succ] at h0
  have H := Lib.hid h1
  clear h1
  go_enter Tryz.func39, Tryz.ntmps39
  go_wp2_with (go_at_call 68; refine (made_yes _ b g xs e h).mono ?_; rintro r w' ⟨rfl, rfl⟩)
  go_end0
  exact ⟨rfl, rfl⟩
set_option maxHeartbeats 400000 in
theorem wraw_long (w : World) (b g : Nat) (xs : List UInt8) (B : Option Addr) (m d : Nat) (h : Wrt w b g xs 0) (hlen : xs.length ≤ 1048576) (hm : m ≤ 140737488351232) (hl : 1048576 < 1 + nb m + m + xs.length) :
    Calls Tryz.prog 39 #[.pointer (some ⟨b, 0, none⟩), .slice B m d] w fun r w' => r = .returned (.tuple #[]) ∧ Between w w' b g xs 3 := by
  obtain ⟨A, c, h1, _, _⟩ := id h
  have h0 := cell_of h1 2
  simp only [List.getElem?_toArray, List.getElem?_cons_zero, List.getElem?_cons_succ] at h0
  have H := Lib.hid h1
  clear h1
  have hb := nb_le m (by omega)
  go_enter Tryz.func39, Tryz.ntmps39
  go_wp2_with (first
    | (go_at_call 68; refine (made_yes _ b g xs 0 h).mono ?_; rintro r w' ⟨rfl, rfl⟩)
    | (go_at_call 70; refine (width_any _ _ (by omega) (by omega)).mono ?_; rintro r w' ⟨rfl, rfl⟩)
    | (go_at_call 69; refine (fits_no _ b g xs _ h (by omega) (by omega)).mono ?_; rintro r w' ⟨rfl, hB⟩))
  go_end0
  exact ⟨rfl, hB⟩

set_option maxHeartbeats 400000 in
theorem wraw_fine (w : World) (b g : Nat) (xs : List UInt8) (B : Option Addr) (m d : Nat) (ys : List UInt8) (h : Wrt w b g xs 0) (hlen : xs.length ≤ 1048576) (hr : Bs w B m ys) (hB : Apart B ys b g) (hl : 1 + nb m + m + xs.length ≤ 1048576) :
    Calls Tryz.prog 39 #[.pointer (some ⟨b, 0, none⟩), .slice B m d] w fun r w' => r = .returned (.tuple #[]) ∧ Between w w' b g (xs ++ enc m ++ ys) 0 := by
  obtain ⟨A, c, h1, _, _⟩ := id h
  have h0 := cell_of h1 2
  simp only [List.getElem?_toArray, List.getElem?_cons_zero, List.getElem?_cons_succ] at h0
  have H := Lib.hid h1
  have HB := Lib.hid hB
  clear h1 hB
  have hb := nb_le m (by omega)
  go_enter Tryz.func39, Tryz.ntmps39
  go_wp2_with (first
    | (go_at_call 68; refine (made_yes _ b g xs 0 h).mono ?_; rintro r w' ⟨rfl, rfl⟩)
    | (go_at_call 70; refine (width_any _ _ (by omega) (by omega)).mono ?_; rintro r w' ⟨rfl, rfl⟩)
    | (go_at_call 69; refine (fits_yes _ b g xs _ h (by omega) (by omega)).mono ?_; rintro r w' ⟨rfl, rfl⟩)
    | (go_at_call 72; refine (number_any _ b g xs 0 _ (by omega) (by omega) h (by omega)).mono ?_; rintro r w1 ⟨rfl, g1, hw1, hc1, hg1⟩; have Hg1 := Lib.hid hg1; clear hg1; have hr1 := hr.past hc1 HB.out)
    | (go_at_call 71; refine (put_any _ b g1 _ 0 _ _ _ ys hw1 hr1 (enc_room xs m hlen hl)).mono ?_; rintro r w2 ⟨rfl, hp⟩))
  go_end0
  exact ⟨rfl, Between.trans hw1 hc1 Hg1.out hp⟩
end
section
open Go.RowKit

/-- Bytes in memory of their own, which was not there at first. -/
def Fresh (w w' : World) (A : Option Addr) (c : Nat) (ys : List UInt8) : Prop := OwnB w' A c ys ∧ (∀ a, A = some a → w.heap.size ≤ a.block) ∧ Chg [] w w'

theorem OwnB.empty (w : World) : OwnB (w.alloc (.cells #[] 5)) (some ⟨w.heap.size, 0, none⟩) 0 [] := .of (full := []) (heap_alloc_new w _) (by simp) (by simp [maxLen]) rfl (by simp)

theorem fresh_app {w w1 : World} {A' : Option Addr} {c' : Nat} {ys : List UInt8} (own1 : OwnB w1 A' c' ([] ++ ys)) (hg1 : (w.alloc (.cells #[] 5)).grownBy w1 (Option.map (·.block) (some (⟨w.heap.size, 0, none⟩ : Addr))))
    (hA1 : A' = some ⟨w.heap.size, 0, none⟩ ∨ A' = some ⟨(w.alloc (.cells #[] 5)).heap.size, 0, none⟩) : Fresh w w1 A' c' ys := by
  refine ⟨own1, ?_, ((Chg.refl [] w).alloc _).grown hg1 (by simp)⟩
  rintro a rfl
  rcases hA1 with h | h <;> cases h <;> simp

set_option maxHeartbeats 400000 in
theorem clone_any (w : World) (B : Option Addr) (m d : Nat) (ys : List UInt8) (hr : Bs w B m ys) (hm : m ≤ 140737488351232) :
    Calls Tryz.prog 73 #[.slice B m d] w fun r w' => ∃ A c, r = .returned (.slice A m c) ∧ Fresh w w' A c ys := by
  rcases B with _ | a
  · have hy : ys = [] := by
      cases ys with
      | nil => rfl
      | cons y ys => obtain ⟨a, h, _⟩ := hr.cells 0 y rfl; cases h
    have hm0 := hr.len
    subst hy
    simp at hm0
    subst hm0
    have h0 := fun w => Lib.run_eql_slice_nil (P := Tryz.prog) w 34 5 none 0 d 0 0 Tryz.underlying34
    go_enter Tryz.func73, Tryz.ntmps73
    go_wp2
    go_ret
    exact ⟨none, 0, rfl, OwnB.none_ _, by simp, Chg.refl _ _⟩
  · have h0 := fun w => Lib.run_eql_slice_nil (P := Tryz.prog) w 34 5 (some a) m d 0 0 Tryz.underlying34
    go_enter Tryz.func73, Tryz.ntmps73
    go_wp2_with (at_builtin; refine wpList_app rfl _ _ rfl rfl (OwnB.empty w) rfl rfl (hr.chg ((Chg.refl [] w).alloc _) (by simp)) (by simp; omega) ?_; intro A' c' w1 own1 hg1 hA1)
    go_ret
    exact ⟨A', c', by simp, fresh_app own1 hg1 hA1⟩

set_option maxHeartbeats 400000 in
theorem copy_any (w : World) (B : Option Addr) (m d : Nat) (ys : List UInt8) (hr : Bs w B m ys) (hm : m ≤ 140737488351232) :
    Calls Tryz.prog 47 #[.slice B m d] w fun r w' => ∃ A c, r = .returned (.slice A m c) ∧ Fresh w w' A c ys := by
  go_enter Tryz.func47, Tryz.ntmps47
  go_wp2_with (at_builtin; refine wpList_app rfl _ _ rfl rfl (OwnB.empty w) rfl rfl (hr.chg ((Chg.refl [] w).alloc _) (by simp)) (by simp; omega) ?_; intro A' c' w1 own1 hg1 hA1)
  go_ret
  exact ⟨A', c', by simp, fresh_app own1 hg1 hA1⟩

set_option maxHeartbeats 400000 in
theorem wout_ok (w : World) (b g : Nat) (xs : List UInt8) (h : Wrt w b g xs 0) (hlen : xs.length ≤ 1048576) :
    Calls Tryz.prog 40 #[.pointer (some ⟨b, 0, none⟩)] w fun r w' => ∃ A c, r = .returned (.tuple #[.slice A xs.length c, .int .i64 0]) ∧ Fresh w w' A c xs := by
  obtain ⟨A, c, h1, h2, _⟩ := id h
  have k1 := cell_of h1 1
  have k2 := cell_of h1 2
  simp only [List.getElem?_toArray, List.getElem?_cons_zero, List.getElem?_cons_succ] at k1 k2
  have H := Lib.hid h1
  clear h1
  go_enter Tryz.func40, Tryz.ntmps40
  go_wp2_with (first
    | (go_at_call 68; refine (made_yes _ b g xs 0 h).mono ?_; rintro r w' ⟨rfl, rfl⟩)
    | (go_at_call 73; refine (clone_any _ _ _ _ xs h2.reads (by omega)).mono ?_; rintro r w1 ⟨A1, c1, rfl, hF⟩))
  go_ret2
  exact ⟨A1, c1, rfl, hF⟩

set_option maxHeartbeats 400000 in
theorem wout_err (w : World) (b g : Nat) (xs : List UInt8) (e : Int) (h : Wrt w b g xs e) (he : (e != 0) = true) :
    Calls Tryz.prog 40 #[.pointer (some ⟨b, 0, none⟩)] w fun r w' => r = .returned (.tuple #[.slice none 0 0, .int .i64 e]) ∧ Chg [] w w' := by
  obtain ⟨A, c, h1, h2, _⟩ := id h
  have k2 := cell_of h1 2
  simp only [List.getElem?_toArray, List.getElem?_cons_zero, List.getElem?_cons_succ] at k2
  have H := Lib.hid h1
  clear h1
  go_enter Tryz.func40, Tryz.ntmps40
  go_wp2_with (go_at_call 68; refine (made_yes _ b g xs e h).mono ?_; rintro r w' ⟨rfl, rfl⟩)
  go_region
  all_goals (go_wp2; go_ret2; exact ⟨rfl, (Chg.refl _ _).drew⟩)

theorem wNum_len {xs : List UInt8} {e x : Int} (h : xs.length ≤ 1048576) : (wNum xs e x).1.length ≤ 1048576 := by
  unfold wNum
  split
  · exact h
  · split
    · exact h
    · split
      · exact h
      · simp [enc_len]; omega
theorem wRaw_len {xs ys : List UInt8} {e : Int} (h : xs.length ≤ 1048576) : (wRaw xs e ys).1.length ≤ 1048576 := by
  unfold wRaw
  split
  · exact h
  · split
    · exact h
    · simp [enc_len]; omega

/-- Raw, whatever came ahead. -/
theorem wraw_any (w : World) (b g : Nat) (xs : List UInt8) (e : Int) (B : Option Addr) (m d : Nat) (ys : List UInt8) (h : Wrt w b g xs e) (hlen : xs.length ≤ 1048576) (hm : m ≤ 140737488351232) (hr : Bs w B m ys) (hB : Apart B ys b g) :
    Calls Tryz.prog 39 #[.pointer (some ⟨b, 0, none⟩), .slice B m d] w fun r w' => r = .returned (.tuple #[]) ∧ Between w w' b g (wRaw xs e ys).1 (wRaw xs e ys).2 := by
  have hl := hr.len
  subst hl
  unfold wRaw
  by_cases he : e = 0
  · subst he
    by_cases h1 : 1048576 < 1 + nb ys.length + ys.length + xs.length
    · simp only [ne_eq, not_true_eq_false, if_false, if_pos h1]; exact wraw_long w b g xs B _ d h hlen hm h1
    · simp only [ne_eq, not_true_eq_false, if_false, if_neg h1]; exact wraw_fine w b g xs B _ d ys h hlen hr hB (by omega)
  · simp only [ne_eq, he, not_false_eq_true, if_true]
    exact (wraw_err w b g xs e B _ d h (by simpa using he)).mono fun r w' ⟨h1, h2⟩ => ⟨h1, h2 ▸ Between.refl h⟩
/-- What Out tells: the bytes, or the error alone. -/
def outs (xs : List UInt8) (e : Int) : List UInt8 := if e = 0 then xs else []
theorem wout_any (w : World) (b g : Nat) (xs : List UInt8) (e : Int) (h : Wrt w b g xs e) (hlen : xs.length ≤ 1048576) :
    Calls Tryz.prog 40 #[.pointer (some ⟨b, 0, none⟩)] w fun r w' => ∃ A c, r = .returned (.tuple #[.slice A (outs xs e).length c, .int .i64 e]) ∧ Fresh w w' A c (outs xs e) := by
  unfold outs
  by_cases he : e = 0
  · subst he
    simp only [if_true]
    exact wout_ok w b g xs h hlen
  · simp only [if_neg he]
    exact (wout_err w b g xs e h (by simpa using he)).mono fun r w' ⟨h1, h2⟩ => ⟨none, 0, h1, OwnB.none_ _, by simp, h2⟩
end
section
open Go.RowKit

set_option maxHeartbeats 400000 in
theorem same_any (w : World) (A B : Option Addr) (n m c d : Nat) (xs ys : List UInt8) (h : Bs w A n xs) (k : Bs w B m ys) :
    Calls Tryz.prog 19 #[.slice A n c, .slice B m d] w fun e w' => e = .returned (.bool (xs == ys)) ∧ w = w' := by
  have h1 := run_str w (c := c) h
  have k1 := run_str w (c := d) k
  go_enter Tryz.func19, Tryz.ntmps19
  go_wp2
  go_ret
  exact ⟨rfl, rfl⟩
theorem same_yes (w : World) (A B : Option Addr) (n m c d : Nat) (xs ys : List UInt8) (h : Bs w A n xs) (k : Bs w B m ys) (e : xs = ys) :
    Calls Tryz.prog 19 #[.slice A n c, .slice B m d] w fun e w' => e = .returned (.bool true) ∧ w = w' := by
  have := same_any w A B n m c d xs ys h k
  rwa [show (xs == ys) = true by simpa using e] at this

/-- The marks that stand behind what is lent. -/
def marks : List UInt8 := [201, 17, 99]
/-- What is lent: bytes at the head of row g, marks behind them. -/
def Lent (w : World) (g : Nat) (xs : List UInt8) : Prop := ∃ full : List UInt8, w.heap[g]? = some (.cells (full.map bv).toArray 5 (0, 0)) ∧ full.take (xs.length + 3) = xs ++ marks

theorem Bs.three (w : World) : Bs (w.alloc (.cells #[.int .u8 201, .int .u8 17, .int .u8 99] 5)) (some ⟨w.heap.size, 0, none⟩) 3 marks := by
  refine ⟨rfl, fun j u hj => ⟨_, rfl, ?_⟩⟩
  have hl := (List.getElem?_eq_some_iff.1 hj).1
  rw [add_zero_lit, cell_of (heap_alloc_new w (.cells #[.int .u8 201, .int .u8 17, .int .u8 99] 5)) j]
  match j, hj, hl with
  | 0, hj, _ => cases hj; rfl
  | 1, hj, _ => cases hj; rfl
  | 2, hj, _ => cases hj; rfl

theorem OwnB.lent {w : World} {A : Option Addr} {c : Nat} {xs : List UInt8} (h : OwnB w A c (xs ++ marks)) : ∃ g, A = some ⟨g, 0, none⟩ ∧ Lent w g xs := by
  rcases h with ⟨_, h, _⟩ | ⟨g, full, rfl, h1, _, _, _, h5⟩
  · simp [marks] at h
  · exact ⟨g, rfl, full, h1, by rw [← h5]; simp [marks]⟩

theorem Lent.reads {w : World} {g : Nat} {xs : List UInt8} (h : Lent w g xs) : Bs w (some ⟨g, 0, none⟩) xs.length xs := by
  obtain ⟨full, h1, h2⟩ := h
  refine ⟨rfl, fun j u hj => ⟨_, rfl, ?_⟩⟩
  have hl := (List.getElem?_eq_some_iff.1 hj).1
  rw [add_zero_lit, cell_of h1 j]
  have e : full[j]? = some u := by
    have := congrArg (fun l => l[j]?) h2
    simp only [List.getElem?_take, List.getElem?_append] at this
    rw [if_pos (by omega), if_pos hl, hj] at this
    exact this
  simp [e]
theorem Lent.marks {w : World} {g : Nat} {xs : List UInt8} (h : Lent w g xs) : Bs w (some ⟨g, xs.length, none⟩) 3 marks := by
  obtain ⟨full, h1, h2⟩ := h
  refine ⟨rfl, fun j u hj => ⟨_, rfl, ?_⟩⟩
  have hl : j < 3 := (List.getElem?_eq_some_iff.1 hj).1
  rw [add_lit, cell_of h1]
  have e : full[xs.length + j]? = some u := by
    have := congrArg (fun l => l[xs.length + j]?) h2
    simp only [List.getElem?_take, List.getElem?_append] at this
    rw [if_pos (by omega), if_neg (by omega), show xs.length + j - xs.length = j by omega, hj] at this
    exact this
  simp [e]
theorem Lent.chg {S : List Nat} {w w' : World} {g : Nat} {xs : List UInt8} (h : Lent w g xs) (hc : Chg S w w') (hg : g ∉ S) : Lent w' g xs := by
  obtain ⟨full, h1, h2⟩ := h
  exact ⟨full, hc.at_ h1 hg, h2⟩

set_option maxHeartbeats 400000 in
theorem lent_any (w : World) (B : Option Addr) (m d : Nat) (xs : List UInt8) (hr : Bs w B m xs) (hm : m ≤ 140737488351232) :
    Calls Tryz.prog 23 #[.slice B m d] w fun e w' => ∃ g, e = .returned (.slice (some ⟨g, 0, none⟩) m (m + 3)) ∧ Lent w' g xs ∧ w.heap.size ≤ g ∧ Chg [] w w' := by
  have hl := hr.len
  subst hl
  go_enter Tryz.func23, Tryz.ntmps23
  go_wp2_with (first
    | (go_at_call 47; refine (copy_any _ _ _ _ xs hr hm).mono ?_; rintro e w1 ⟨A1, c1, rfl, f1, f2, f3⟩; have F2 := Lib.hid f2; clear f2)
    | (at_builtin; refine wpList_app rfl _ _ rfl rfl (f1.chg ((Chg.refl [] w1).alloc _) (by simp)) rfl rfl (Bs.three w1) (by omega) ?_; intro A2 c2 w2 own2 hg2 hA2; obtain ⟨g, rfl, hL⟩ := own2.lent; have hcap := own2.cap; simp only [List.length_append, marks, List.length_cons, List.length_nil, maxLen] at hcap))
  go_ret
  have hs := f3.size
  have F3 := f3.alloc (.cells #[.int .u8 201, .int .u8 17, .int .u8 99] 5)
  refine ⟨g, rfl, hL, ?_, F3.grown hg2 (fun k hk => ?_)⟩
  · rcases hA2 with h | h
    · exact F2.out _ h.symm
    · cases h
      simp; omega
  · cases A1 with
    | none => cases hk
    | some a =>
      simp at hk
      subst hk
      exact .inr (F2.out _ rfl)

set_option maxHeartbeats 400000 in
theorem kept_any (w : World) (g : Nat) (B : Option Addr) (m d : Nat) (xs : List UInt8) (hL : Lent w g xs) (hr : Bs w B m xs) (hm : m ≤ 140737488351232) :
    Calls Tryz.prog 26 #[.slice (some ⟨g, 0, none⟩) m (m + 3), .slice B m d] w fun e w' => e = .returned (.bool true) ∧ Chg [] w w' := by
  have hl := hr.len
  subst hl
  go_enter Tryz.func26, Tryz.ntmps26
  go_wp2_with fail
  refine (same_yes _ _ _ _ _ _ _ xs xs hL.reads hr rfl).mono ?_
  rintro e w1 ⟨rfl, rfl⟩
  have h0 : ¬ xs.length + 3 = xs.length := by omega
  have hM := Lent.marks (hL.chg ((Chg.refl [] w).alloc (.cells #[.int .u8 201, .int .u8 17, .int .u8 99] 5)) (by simp))
  go_wp2_with fail
  refine (same_yes _ _ _ _ _ _ _ marks marks hM (Bs.three w) rfl).mono ?_
  rintro e w1 ⟨rfl, rfl⟩
  go_wp2
  go_ret
  exact ⟨rfl, (Chg.refl _ _).alloc _⟩

/-- A row of bytes, whole. -/
def Row (w : World) (g : Nat) (full : List UInt8) : Prop := w.heap[g]? = some (.cells (full.map bv).toArray 5 (0, 0))
theorem Row.cell {w : World} {g : Nat} {full : List UInt8} (h : Row w g full) (j : Nat) (hj : j < full.length) : w.cell? ⟨g, j, none⟩ = some (.int .u8 ((full.getD j 0).toNat : Int)) := by
  rw [cell_of h j]
  simp [List.getD, hj, bv]
theorem Row.set {w : World} {g : Nat} {full : List UInt8} (h : Row w g full) (j : Nat) (x : Int) (c : UInt8) (hx : x = (c.toNat : Int)) : Row (w.setCell ⟨g, j, none⟩ (.int .u8 x)) g (full.set j c) := by
  have := heap_setCell_same w g j _ _ (.int .u8 x) h
  unfold Row
  rw [this]
  subst hx
  congr 2
  simp [bv]
def byteAt (full : List UInt8) (j : Nat) : Nat := (full.getD j 0).toNat
theorem byteAt_lt (full : List UInt8) (j : Nat) : byteAt full j < 256 := (full.getD j 0).toNat_lt

set_option maxHeartbeats 400000 in
theorem over_row (w : World) (g n c : Nat) (full : List UInt8) (hg : Row w g full) (hc : c ≤ full.length) (hm : c ≤ 9223372036854775807) :
    Calls Tryz.prog 21 #[.slice (some ⟨g, 0, none⟩) n c] w fun e w' => e = .returned (.tuple #[]) ∧ Chg [g] w w' := by
  have HG := Lib.hid hg
  clear hg
  go_enter Tryz.func21, Tryz.ntmps21
  go_wp2
  go_loopw [3] (fun i wr => ∃ (j : Nat) (fl : List UInt8), j ≤ c ∧ i = .int .i64 j ∧ Row wr g fl ∧ fl.length = full.length ∧ Chg [g] w wr) (fun i _ => c - (intOf i).toNat)
  case atStart => exact ⟨0, full, by omega, rfl, HG.out, rfl, Chg.refl _ _⟩
  case round =>
    obtain ⟨j, fl, hj, rfl, hr, hl, hch⟩ := hrel
    have HR := Lib.hid hr
    have HL := Lib.hid hl
    by_cases hlt : j < c
    · have hcj := hr.cell j (by omega)
      have hfj := free_of hr j
      have hb := byteAt_lt fl j
      rw [show (fl.getD j 0).toNat = byteAt fl j from rfl] at hcj
      clear hr hl
      go_wp2
      refine ⟨⟨j + 1, fl.set j (UInt8.ofNat ((byteAt fl j + 101) % 256)), by omega, by go_num, HR.out.set j _ _ (u8_of _ _ (by omega) (by omega)), by rw [List.length_set]; exact HL.out, hch.setCell (by simp) _⟩, by simp [intOf]; omega⟩
    · clear hr hl
      go_wp2
      go_end0
      exact ⟨rfl, hch⟩

set_option maxHeartbeats 400000 in
theorem over_nil (w : World) (n : Nat) : Calls Tryz.prog 21 #[.slice none n 0] w fun e w' => e = .returned (.tuple #[]) ∧ w = w' := by
  go_enter Tryz.func21, Tryz.ntmps21
  go_wp2
  refine wp_loop_rounds 1 ?_
  rw [rounds_succ]
  go_wp2
  go_end0
  exact ⟨rfl, rfl⟩

/-- The bytes of an answer, written over. -/
theorem over_own (w : World) (A : Option Addr) (c n : Nat) (xs : List UInt8) (h : OwnB w A c xs) (hn : n = xs.length) :
    Calls Tryz.prog 21 #[.slice A n c] w fun e w' => e = .returned (.tuple #[]) ∧ ∀ S : List Nat, (∀ a, A = some a → a.block ∈ S) → Chg S w w' := by
  subst hn
  rcases h with ⟨rfl, rfl, rfl⟩ | ⟨g, full, rfl, hg, hl, hm, hn, _⟩
  · exact (over_nil w 0).mono fun e w' ⟨h1, h2⟩ => ⟨h1, fun S _ => h2 ▸ Chg.refl _ _⟩
  · refine (over_row w g xs.length c full hg (by omega) (by unfold maxLen at hm; omega)).mono fun e w' ⟨h1, h2⟩ => ⟨h1, fun S hS => h2.mono ?_⟩
    intro i hi
    simp at hi
    subst hi
    exact .inl (hS _ rfl)
end
section
open Go.RowKit
end
section
open Go.RowKit
set_option linter.unusedSimpArgs false
set_option linter.unusedVariables false

/-- Which dots may be. -/
def FineD (n s : Int) : Prop := 1 ≤ n ∧ n ≤ 200 ∧ 1 ≤ s ∧ s ≤ 2147483647
instance (n s : Int) : Decidable (FineD n s) := by unfold FineD; exact inferInstance
/-- Comes one dot ahead of another one? -/
def LtD (a s b t : Int) : Prop := a < b ∨ a = b ∧ s < t
instance (a s b t : Int) : Decidable (LtD a s b t) := by unfold LtD; exact inferInstance
end
section
open Go.RowKit
set_option linter.unusedSimpArgs false
set_option linter.unusedVariables false
end
section
open Go.RowKit
set_option linter.unusedSimpArgs false
set_option linter.unusedVariables false
end
section
open Go.RowKit
set_option linter.unusedSimpArgs false
set_option linter.unusedVariables false


def spanTy : RowTy (Int × Int × Int) where
  enc := fun x => [.int .i64 x.1, .int .i64 x.2.1, .int .i64 x.2.2]
  k := 3
  T := 78
  TS := 22
  z := (0, 0, 0)
  zv := .agg #[.int .i64 0, .int .i64 0, .int .i64 0]
  bytes := 24
  klen := fun _ => rfl
  one := by intro x v hv; simp at hv; rcases hv with rfl | rfl | rfl <;> rfl
  zc := rfl
  kpos := by decide
  bpos := by decide
  under := by kernel_rfl
  info := by kernel_rfl
theorem spanCells {w : World} {g o n j : Nat} {xs : List (Int × Int × Int)} (h : RdK spanTy w (some ⟨g, o, none⟩) n xs) {x : Int × Int × Int} (hx : xs[j]? = some x) : w.cell? ⟨g, o + j * 3, none⟩ = some (.int .i64 x.1) ∧ w.cell? ⟨g, o + j * 3 + 1, none⟩ = some (.int .i64 x.2.1) ∧ w.cell? ⟨g, o + j * 3 + 2, none⟩ = some (.int .i64 x.2.2) :=
  ⟨h.at_ j 0 x _ hx rfl, h.at_ j 1 x _ hx rfl, h.at_ j 2 x _ hx rfl⟩
set_option maxHeartbeats 1000000 in
theorem samespan_any (w : World) (A B : Option Addr) (n m c d : Nat) (xs ys : List (Int × Int × Int)) (h : RdK spanTy w A n xs) (h' : RdK spanTy w B m ys) (hn : n ≤ 140737488351232) (hm : m ≤ 140737488351232) :
    Calls Tryz.prog 22 #[.slice A n c, .slice B m d] w fun e w' => e = .returned (.bool (xs == ys)) ∧ Chg [] w w' := by
  have hl := h.len
  have hl2 := h'.len
  subst hl hl2
  by_cases hne : xs.length = ys.length
  · have hb : ((xs.length : Int) == (ys.length : Int)) = true := by simp; omega
    have HN := Lib.hid hne
    have HA := Lib.hid h
    have HB := Lib.hid h'
    clear hne h h'
    go_enter Tryz.func22, Tryz.ntmps22
    go_wp2
    go_loopw [5] (fun i wr => ∃ k : Nat, k ≤ xs.length ∧ i = .int .i64 k ∧ Hid (xs.take k = ys.take k ∧ Chg [] w wr)) (fun i _ => xs.length - (RowKit.intOf i).toNat)
    case atStart => exact ⟨0, Nat.zero_le _, rfl, rfl, Chg.refl _ _⟩
    case round =>
      obtain ⟨k, hk, rfl, HI⟩ := hrel
      by_cases hlt : k < xs.length
      · have hlt2 : k < ys.length := by have := HN.out; omega
        obtain ⟨g, o, eA, _⟩ := HA.out.line (by omega)
        obtain ⟨g2, o2, eB, _⟩ := HB.out.line (by omega)
        subst eA eB
        have ex := List.getElem?_eq_getElem hlt
        have ey := List.getElem?_eq_getElem hlt2
        obtain ⟨p0, p1, p2⟩ := spanCells (HA.out.chg HI.out.2 (by simp)) ex
        obtain ⟨q0, q1, q2⟩ := spanCells (HB.out.chg HI.out.2 (by simp)) ey
        generalize hx : xs[k] = x at *
        generalize hy : ys[k] = y at *
        have i0 : (0 : Int) ≤ (k : Int) := by omega
        have i1 : (k : Int) < (xs.length : Int) := by omega
        have i2 : (k : Int) < (ys.length : Int) := by omega
        have HX := Lib.hid (And.intro ex ey)
        clear ex ey hx hy
        refine (Decidable.em (x = y)).elim (fun hxy => ?EQ) (fun hxy => ?NE)
        case EQ =>
          subst hxy
          go_wp2
          go_quiet (fail)
          go_wp2
          refine ⟨⟨k + 1, by omega, by simp, ?_, HI.out.2.drewN _⟩, by simp [RowKit.intOf]; omega⟩
          rw [List.take_add_one, List.take_add_one, HI.out.1, HX.out.1, HX.out.2]
        case NE =>
          have hf : (xs == ys) = false := by
            rw [beq_eq_false_iff_ne]
            intro e
            apply hxy
            have h1 := HX.out.1
            rw [e, HX.out.2] at h1
            exact (Option.some.inj h1).symm
          have HF := Lib.hid hf
          clear hf
          by_cases h0 : x.1 = y.1
          · skip
            by_cases h1 : x.2.1 = y.2.1
            · skip
              have h2 : ¬ x.2.2 = y.2.2 := fun h => hxy (by exact Prod.ext h0 (Prod.ext h1 h))
              clear hxy
              go_wp2
              go_quiet (fail)
              go_wp2
              go_ret
              exact ⟨by rw [HF.out]; rfl, HI.out.2.drewN _⟩
            · clear hxy
              go_wp2
              go_quiet (fail)
              go_wp2
              go_ret
              exact ⟨by rw [HF.out]; rfl, HI.out.2.drewN _⟩
          · clear hxy
            go_wp2
            go_quiet (fail)
            go_wp2
            go_ret
            exact ⟨by rw [HF.out]; rfl, HI.out.2.drewN _⟩
      · obtain rfl : k = xs.length := by omega
        have ht : (xs == ys) = true := by
          have := HI.out.1
          rw [List.take_of_length_le (Nat.le_refl _), List.take_of_length_le (by have := HN.out; omega)] at this
          simpa using this
        have HF := Lib.hid ht
        clear ht
        go_wp2
        go_ret
        exact ⟨by rw [HF.out]; rfl, HI.out.2⟩
  · have hb : ((xs.length : Int) == (ys.length : Int)) = false := by simp; omega
    have hf : (xs == ys) = false := by
      rw [beq_eq_false_iff_ne]
      intro e
      exact hne (by rw [e])
    rw [hf]
    clear hne h h' hf
    go_enter Tryz.func22, Tryz.ntmps22
    go_wp2
    go_ret
    exact ⟨rfl, Chg.refl _ _⟩
set_option maxRecDepth 100000 in
set_option maxHeartbeats 1000000 in
theorem copyspan_any (w : World) (A : Option Addr) (n c : Nat) (xs : List (Int × Int × Int)) (h : RdK spanTy w A n xs) (hn : n * 400 ≤ 140737488355327) :
    Calls Tryz.prog 7 #[.slice A n c] w fun e w' => ∃ A' c', e = .returned (.slice A' n c') ∧ OwnK spanTy w' A' c' xs ∧ (∀ a, A' = some a → w.heap.size ≤ a.block) ∧ Chg [] w w' := by
  obtain ⟨w1, hw1, c1, b1⟩ := news1 w (.cells #[] 78)
  have W1 := Lib.hid hw1
  have HA := Lib.hid (h.chg c1 (by simp))
  have HO : Hid (OwnK spanTy w1 (some ⟨w.heap.size, 0, none⟩) 0 []) := Lib.hid (.of (full := []) b1 (Nat.le_refl _) (Nat.zero_le _) rfl rfl)
  have C1 := Lib.hid c1

  have HN : Hid ((0 + n) * 400 ≤ 140737488355327) := Lib.hid (by rw [Nat.zero_add]; exact hn)
  clear hw1 c1 b1 h hn
  go_enter Tryz.func7, Tryz.ntmps7
  go_wp2_with (at_builtin; rw [← W1.out]; refine wpList_appK rfl _ _ rfl rfl HO.out rfl rfl HA.out HN.out ?_; intro A2 c2 w2 u2 d2 e2)
  go_ret
  rw [Nat.zero_add] at *
  have hA2 : ∀ a, A2 = some a → w.heap.size ≤ a.block := by
    rintro a rfl
    rcases e2 with h | h
    · cases h; exact Nat.le_refl _
    · cases h; exact C1.out.size
  exact ⟨A2, c2, by simp, by simpa using u2, hA2, C1.out.grown d2 (fun k hk => by simp at hk; subst hk; exact .inr (Nat.le_refl _))⟩
theorem spanSet (full : List (Int × Int × Int)) (j : Nat) (x : Int × Int × Int) (hj : j < full.length) : ((((spanTy.flat full).toArray.setIfInBounds (j * 3) (.int .i64 x.1)).setIfInBounds (j * 3 + 1) (.int .i64 x.2.1)).setIfInBounds (j * 3 + 2) (.int .i64 x.2.2)) = (spanTy.flat (full.set j x)).toArray := by
  apply Array.toList_inj.1
  refine (spanTy.flat_ext _ (full.set j x) ?_ ?_)
  · simp [RowTy.flat_len]
  · intro q i y hy hi
    have hk : spanTy.k = 3 := rfl
    rw [hk] at hi ⊢
    have hlen : (spanTy.flat full).length = full.length * 3 := spanTy.flat_len full
    simp only [Array.toList_setIfInBounds, List.getElem?_set, List.length_set]
    rw [List.getElem?_set] at hy
    by_cases hq : j = q
    · subst hq
      rw [if_pos rfl, if_pos hj] at hy
      cases hy
      rcases (show i = 0 ∨ i = 1 ∨ i = 2 by omega) with rfl | rfl | rfl
      · rw [if_neg (by omega)]; rw [if_neg (by omega)]; rw [if_pos (by omega), if_pos (by simp [hlen]; omega)]; rfl
      · rw [if_neg (by omega)]; rw [if_pos (by omega), if_pos (by simp [hlen]; omega)]; rfl
      · rw [if_pos (by omega), if_pos (by simp [hlen]; omega)]; rfl
    · rw [if_neg hq] at hy
      have hql := (List.getElem?_eq_some_iff.1 hy).1
      rw [if_neg (by omega), if_neg (by omega), if_neg (by omega)]
      have e := spanTy.flat_at full q i y hy (by rw [hk]; exact hi)
      rw [hk] at e
      simpa using e
theorem spanPut (w : World) (g j : Nat) (full : List (Int × Int × Int)) (x : Int × Int × Int) (h : w.heap[g]? = some (.cells (spanTy.flat full).toArray 78 (0, 0))) (hj : j < full.length) : (((w.setCell ⟨g, j * 3, none⟩ (.int .i64 x.1)).setCell ⟨g, j * 3 + 1, none⟩ (.int .i64 x.2.1)).setCell ⟨g, j * 3 + 2, none⟩ (.int .i64 x.2.2)).heap[g]? = some (.cells (spanTy.flat (full.set j x)).toArray 78 (0, 0)) := by
  have h0 := heap_setCell_same _ g (j * 3) _ _ (.int .i64 x.1) h
  have h1 := heap_setCell_same _ g (j * 3 + 1) _ _ (.int .i64 x.2.1) h0
  have h2 := heap_setCell_same _ g (j * 3 + 2) _ _ (.int .i64 x.2.2) h1
  rw [spanSet full j x hj] at h2
  exact h2
set_option maxHeartbeats 1000000 in
theorem overspan_row (w : World) (g n c : Nat) (full : List (Int × Int × Int)) (hg : w.heap[g]? = some (.cells (spanTy.flat full).toArray 78 (0, 0))) (hl : full.length = c) (hn : n ≤ c) (hc : c ≤ 9223372036854775807) :
    Calls Tryz.prog 20 #[.slice (some ⟨g, 0, none⟩) n c] w fun e w' => e = .returned (.tuple #[]) ∧ Chg [g] w w' := by
  have HG := Lib.hid hg
  clear hg
  have i1 : (0 : Int) ≤ (c : Int) := by omega
  have hcc : (n : Int) ≤ (c : Int) := by omega
  go_enter Tryz.func20, Tryz.ntmps20
  go_wp2
  go_loopw [3] (fun i wr => ∃ (k : Nat) (cur : List (Int × Int × Int)), k ≤ c ∧ i = .int .i64 k ∧ Hid (cur.length = c ∧ wr.heap[g]? = some (.cells (spanTy.flat cur).toArray 78 (0, 0)) ∧ Chg [g] w wr)) (fun i _ => c - (RowKit.intOf i).toNat)
  case atStart => exact ⟨0, full, Nat.zero_le _, rfl, hl, HG.out, Chg.refl _ _⟩
  case round =>
    obtain ⟨k, cur, hk, rfl, HI⟩ := hrel
    by_cases hlt : k < c
    · have hcl : k < cur.length := by have := HI.out.1; omega
      have hrd : RdK spanTy wr (some ⟨g, 0, none⟩) cur.length cur := (OwnK.of (c := cur.length) (xs := cur) HI.out.2.1 (Nat.le_refl _) (by have := HI.out.1; unfold maxLen; omega) rfl (List.take_length)).reads
      have ex := List.getElem?_eq_getElem hcl
      obtain ⟨p0, p1, p2⟩ := spanCells hrd ex
      simp only [Nat.zero_add] at p0 p1 p2
      have f0 := free_of HI.out.2.1 (k * 3)
      have f1 := free_of HI.out.2.1 (k * 3 + 1)
      have f2 := free_of HI.out.2.1 (k * 3 + 2)
      have i2 : (0 : Int) ≤ (k : Int) := by omega
      have i3 : (k : Int) < (c : Int) := by omega
      have hput := spanPut wr g k cur (-7, 7, -7) HI.out.2.1 hcl
      have hch := HI.out.2.2.trans ((((Chg.refl [g] wr).setCell (p := ⟨g, k * 3, none⟩) (.inl (by simp)) (.int .i64 (-7))).setCell (p := ⟨g, k * 3 + 1, none⟩) (.inl (by simp)) (.int .i64 (7))).setCell (p := ⟨g, k * 3 + 2, none⟩) (.inl (by simp)) (.int .i64 (-7)))
      have HP := Lib.hid (And.intro hput hch)
      clear hput hch hrd ex
      go_wp2
      refine ⟨⟨k + 1, cur.set k (-7, 7, -7), by omega, by simp, by rw [List.length_set]; exact HI.out.1, HP.out.1, HP.out.2⟩, by simp [RowKit.intOf]; omega⟩
    · obtain rfl : k = c := by omega
      go_wp2
      go_end0
      exact ⟨rfl, HI.out.2.2⟩
set_option maxHeartbeats 1000000 in
theorem overspan_own (w : World) (A : Option Addr) (n c : Nat) (xs : List (Int × Int × Int)) (h : OwnK spanTy w A c xs) (hn : n = xs.length) :
    Calls Tryz.prog 20 #[.slice A n c] w fun e w' => e = .returned (.tuple #[]) ∧ ∀ S : List Nat, (∀ a, A = some a → a.block ∈ S) → Chg S w w' := by
  subst hn
  rcases h with ⟨rfl, rfl, rfl⟩ | ⟨g, full, rfl, hg, hl, hm, hn, _⟩
  · go_enter Tryz.func20, Tryz.ntmps20
    go_wp2
    refine wp_loop_rounds 1 ?_
    rw [rounds_succ]
    go_wp2
    go_end0
    exact ⟨rfl, fun S _ => Chg.refl _ _⟩
  · unfold maxLen at hm
    exact (overspan_row w g _ c full hg hl hn (by omega)).mono fun e w' ⟨h1, h2⟩ => ⟨h1, fun S hS => h2.mono (fun i hi => by simp at hi; subst hi; exact .inl (hS _ rfl))⟩
end
section
open Go.RowKit Go.Lib
set_option linter.unusedSimpArgs false
set_option linter.unusedVariables false


/-- Which spans may be, by themselves. -/
def FineS (n f t : Int) : Prop := 1 ≤ n ∧ n ≤ 200 ∧ 1 ≤ f ∧ f ≤ t ∧ t ≤ 2147483647
instance (n f t : Int) : Decidable (FineS n f t) := by unfold FineS; exact inferInstance
/-- The second is behind the first, and does not touch it. -/
def ApartS (n t m g : Int) : Prop := n < m ∨ n = m ∧ t + 1 < g
instance (n t m g : Int) : Decidable (ApartS n t m g) := by unfold ApartS; exact inferInstance
/-- May the rest be, behind that one? -/
def okFrom : Option (Int × Int × Int) → List (Int × Int × Int) → Bool
  | _, [] => true
  | none, x :: l => decide (FineS x.1 x.2.1 x.2.2) && okFrom (some x) l
  | some y, x :: l => decide (FineS x.1 x.2.1 x.2.2) && decide (ApartS y.1 y.2.2 x.1 x.2.1) && okFrom (some x) l
/-- Why a past may not be. -/
def chkS (xs : List (Int × Int × Int)) : Int := if xs.length ≤ 4000 ∧ okFrom none xs = true then 0 else 2
/-- The one ahead of place k. -/
def prevS (xs : List (Int × Int × Int)) (k : Nat) : Option (Int × Int × Int) := if k = 0 then none else xs[k - 1]?
theorem okFrom_next (xs : List (Int × Int × Int)) (k : Nat) (x : Int × Int × Int) (hx : xs[k]? = some x) :
    okFrom (prevS xs k) (xs.drop k) = (decide (FineS x.1 x.2.1 x.2.2) && (match prevS xs k with | none => true | some y => decide (ApartS y.1 y.2.2 x.1 x.2.1)) && okFrom (prevS xs (k + 1)) (xs.drop (k + 1))) := by
  obtain ⟨hk, rfl⟩ := List.getElem?_eq_some_iff.1 hx
  rw [List.drop_eq_getElem_cons hk]
  have e : prevS xs (k + 1) = some xs[k] := by unfold prevS; rw [if_neg (by omega)]; exact List.getElem?_eq_getElem hk
  rw [e]
  cases prevS xs k <;> simp [okFrom]

set_option maxHeartbeats 400000 in
theorem stands_any (w : World) (n f t : Int) : Calls Tryz.prog 76 #[.agg #[.int .i64 n, .int .i64 f, .int .i64 t]] w fun e w' => e = .returned (.bool (decide (FineS n f t))) ∧ Chg [] w w' := by
  have go : ∀ v, decide (FineS n f t) = v → Calls Tryz.prog 76 #[.agg #[.int .i64 n, .int .i64 f, .int .i64 t]] w (fun e w' => e = .returned (.bool v) ∧ Chg [] w w') → Calls Tryz.prog 76 #[.agg #[.int .i64 n, .int .i64 f, .int .i64 t]] w fun e w' => e = .returned (.bool (decide (FineS n f t))) ∧ Chg [] w w' := fun v hv h => hv ▸ h
  by_cases h : FineS n f t
  · refine go true (decide_eq_true h) ?_
    obtain ⟨h1, h2, h3, h4, h5⟩ := h
    clear go
    go_enter Tryz.func76, Tryz.ntmps76
    go_wp2
    go_ret
    exact ⟨rfl, (Chg.refl _ _).alloc _⟩
  · refine go false (decide_eq_false h) ?_
    unfold FineS at h
    by_cases h1 : 1 ≤ n
    rotate_left
    · clear h
      clear go
      go_enter Tryz.func76, Tryz.ntmps76
      go_wp2
      go_ret
      exact ⟨rfl, (Chg.refl _ _).alloc _⟩
    by_cases h2 : n ≤ 200
    rotate_left
    · clear h
      clear go
      go_enter Tryz.func76, Tryz.ntmps76
      go_wp2
      go_ret
      exact ⟨rfl, (Chg.refl _ _).alloc _⟩
    by_cases h3 : 1 ≤ f
    rotate_left
    · clear h
      clear go
      go_enter Tryz.func76, Tryz.ntmps76
      go_wp2
      go_ret
      exact ⟨rfl, (Chg.refl _ _).alloc _⟩
    by_cases h4 : f ≤ t
    rotate_left
    · clear h
      clear go
      go_enter Tryz.func76, Tryz.ntmps76
      go_wp2
      go_ret
      exact ⟨rfl, (Chg.refl _ _).alloc _⟩
    have h5 : ¬ t ≤ 2147483647 := by omega
    clear h
    clear go
    go_enter Tryz.func76, Tryz.ntmps76
    go_wp2
    go_ret
    exact ⟨rfl, (Chg.refl _ _).alloc _⟩
set_option maxHeartbeats 400000 in
theorem apart_any (w : World) (n f t m g u : Int) (ht : -2147483648 ≤ t) (ht2 : t ≤ 2147483647) : Calls Tryz.prog 77 #[.agg #[.int .i64 n, .int .i64 f, .int .i64 t], .agg #[.int .i64 m, .int .i64 g, .int .i64 u]] w fun e w' => e = .returned (.bool (decide (ApartS n t m g))) ∧ Chg [] w w' := by
  have go : ∀ v, decide (ApartS n t m g) = v → Calls Tryz.prog 77 #[.agg #[.int .i64 n, .int .i64 f, .int .i64 t], .agg #[.int .i64 m, .int .i64 g, .int .i64 u]] w (fun e w' => e = .returned (.bool v) ∧ Chg [] w w') → Calls Tryz.prog 77 #[.agg #[.int .i64 n, .int .i64 f, .int .i64 t], .agg #[.int .i64 m, .int .i64 g, .int .i64 u]] w fun e w' => e = .returned (.bool (decide (ApartS n t m g))) ∧ Chg [] w w' := fun v hv h => hv ▸ h
  have wr : IntKind.i64.wrap (t + 1) = t + 1 := IntWalk.i64_in _ (by omega)
  by_cases h1 : n < m
  · refine go true (decide_eq_true (.inl h1)) ?_
    clear go
    go_enter Tryz.func77, Tryz.ntmps77
    go_wp2
    go_ret
    exact ⟨rfl, ((Chg.refl _ _).alloc _).alloc _⟩
  by_cases h2 : n = m
  rotate_left
  · refine go false (decide_eq_false (by unfold ApartS; omega)) ?_
    clear go
    go_enter Tryz.func77, Tryz.ntmps77
    go_wp2
    go_ret
    exact ⟨rfl, ((Chg.refl _ _).alloc _).alloc _⟩
  by_cases h3 : t + 1 < g
  · refine go true (decide_eq_true (.inr ⟨h2, h3⟩)) ?_
    subst h2
    clear go
    go_enter Tryz.func77, Tryz.ntmps77
    go_wp2
    go_ret
    exact ⟨rfl, ((Chg.refl _ _).alloc _).alloc _⟩
  · refine go false (decide_eq_false (by unfold ApartS; omega)) ?_
    subst h2
    clear go
    go_enter Tryz.func77, Tryz.ntmps77
    go_wp2
    go_ret
    exact ⟨rfl, ((Chg.refl _ _).alloc _).alloc _⟩
end
section
open Go.RowKit Go.Lib
set_option linter.unusedSimpArgs false
set_option linter.unusedVariables false



set_option maxHeartbeats 4000000 in
set_option maxRecDepth 100000 in
theorem pacheck_any (w : World) (A : Option Addr) (n c : Nat) (xs : List (Int × Int × Int)) (h : RdK spanTy w A n xs) (hn : n ≤ 140737488351232) : Calls Tryz.prog 45 #[.slice A n c] w fun e w' => e = .returned (.int .i64 (chkS xs)) ∧ Chg [] w w' := by
  have go : ∀ v, chkS xs = v → Calls Tryz.prog 45 #[.slice A n c] w (fun e w' => e = .returned (.int .i64 v) ∧ Chg [] w w') → Calls Tryz.prog 45 #[.slice A n c] w fun e w' => e = .returned (.int .i64 (chkS xs)) ∧ Chg [] w w' := fun v hv h => hv ▸ h
  have hl := h.len
  subst hl
  by_cases hbig : 4000 < xs.length
  · refine go 2 (if_neg (by omega)) ?_
    clear go h
    go_enter Tryz.func45, Tryz.ntmps45
    go_wp2
    go_ret
    exact ⟨rfl, Chg.refl _ _⟩
  · skip
    have HX := Lib.hid h
    have hV : chkS xs = if okFrom none xs = true then 0 else 2 := by unfold chkS; by_cases ho : okFrom none xs = true <;> simp [ho] <;> omega
    have HV := Lib.hid hV
    clear h go
    generalize chkS xs = V at *
    clear hV
    go_enter Tryz.func45, Tryz.ntmps45
    go_wp2
    go_loopw [10] (fun i wr => ∃ (k : Nat), k ≤ xs.length ∧ i = .int .i64 k ∧ Hid (Chg [] w wr ∧ okFrom none xs = okFrom (prevS xs k) (xs.drop k) ∧ ∀ y, prevS xs k = some y → FineS y.1 y.2.1 y.2.2)) (fun i _ => xs.length - (RowKit.intOf i).toNat)
    case atStart => exact ⟨0, Nat.zero_le _, rfl, Chg.refl _ _, rfl, by unfold prevS; simp⟩
    case round =>
      obtain ⟨k, hk, rfl, HI⟩ := hrel
      generalize wr = w1 at *
      clear wr
      by_cases hlt : k < xs.length
      · skip
        obtain ⟨g, o, eA, _⟩ := HX.out.line (by omega)
        subst eA
        have ex := List.getElem?_eq_getElem hlt
        generalize xs[k] = x at *
        have EX := Lib.hid ex
        have hok := okFrom_next xs k x ex
        have HOK := Lib.hid (HI.out.2.1.trans hok)
        clear ex hok
        have i0 : (0 : Int) ≤ (k : Int) := by omega
        have i1 : (k : Int) < (xs.length : Int) := by omega
        have hcc := spanCells (HX.out.chg HI.out.1 (by simp)) EX.out
        obtain ⟨p0, p1, p2⟩ := hcc
        have CW := Lib.hid HI.out.1
        obtain ⟨w2, hw2, cw2, b_B0⟩ := news1 w1 (.cells #[.int .i64 x.1, .int .i64 x.2.1, .int .i64 x.2.2] 78)
        have Ww2 := Lib.hid hw2
        have l_B0 := lt_of_heap b_B0
        replace CW := Lib.hid (CW.out.trans cw2)
        have B0 := Lib.hid (b_B0)
        clear hw2 cw2 b_B0
        skip
        go_upto_region 6 with fail
        rw [← Ww2.out]
        generalize w1.heap.size = b at *
        clear Ww2
        have hc0 : ∀ w', Chg [] w2 w' → w'.cell? ⟨b, 0, none⟩ = some (.int .i64 x.1) ∧ w'.cell? ⟨b, 1, none⟩ = some (.int .i64 x.2.1) ∧ w'.cell? ⟨b, 2, none⟩ = some (.int .i64 x.2.2) := by
          intro w' hc
          have b1 := hc.at_ B0.out (by simp)
          exact ⟨cell_of b1 0, cell_of b1 1, cell_of b1 2⟩
        have HC0 := Lib.hid hc0
        clear hc0
        have LS := Lib.hid (fun w => stands_any w x.1 x.2.1 x.2.2)
        by_cases hf : FineS x.1 x.2.1 x.2.2
        · have hd : decide (FineS x.1 x.2.1 x.2.2) = true := decide_eq_true hf
          have HFN := Lib.hid hf
          rw [hd] at LS HOK
          clear hd hf
          by_cases h0 : k = 0
          · subst h0
            refine wp_region_held_drew (S := fun w' => Chg [] w2 w') (by kernel_rfl) (Chg.refl [] w2).drew (fun hHeld => ?_)
            refine step_yes 0 15 ?_ (by assumption) rfl rfl (by kernel_rfl) (by kernel_rfl) (by kernel_rfl) (fun _ _ _ h => h) (by rfl) ?_ ?_
            rotate_left
            · (intro w hSw; (try dsimp only at hSw); have hq := HC0.out _ hSw; obtain ⟨q0, q1, q2⟩ := hq; go_simp; try with_reducible rfl)
            try simp only [Act.put, List.setIfInBounds_toArray, List.set_cons_zero, List.set_cons_succ]
            refine wpAnyH_ready (rs := [1]) (by kernel_rfl) (by simp) ?_
            refine AllReadyH.cons rfl (fun K hK => ?_) AllReadyH.nil
            replace hK := Lib.hid hK
            go_simp
            refine (LS.out _).mono ?_
            rintro e w9 ⟨rfl, hc⟩
            have C9 := Lib.hid (hHeld.trans hc)
            clear hc hHeld
            refine hK.out _ _ C9.out (fun hHeld => ?_)
            clear hK K
            try simp only [Act.put, List.setIfInBounds_toArray, List.set_cons_zero, List.set_cons_succ]
            refine step_yes 2 17 ?_ (by assumption) rfl rfl (by kernel_rfl) (by kernel_rfl) (by kernel_rfl) (fun _ _ _ h => h) (by rfl) ?_ ?_
            rotate_left
            · (intro w hSw; (try dsimp only at hSw); go_simp; try with_reducible rfl)
            try simp only [Act.put, List.setIfInBounds_toArray, List.set_cons_zero, List.set_cons_succ]
            refine step_yes 3 18 ?_ (by assumption) rfl rfl (by kernel_rfl) (by kernel_rfl) (by kernel_rfl) (fun _ _ _ h => h) (by rfl) ?_ ?_
            rotate_left
            · (intro w hSw; (try dsimp only at hSw); go_simp; try with_reducible rfl)
            try simp only [Act.put, List.setIfInBounds_toArray, List.set_cons_zero, List.set_cons_succ]
            refine step_yes 4 19 ?_ (by assumption) rfl rfl (by kernel_rfl) (by kernel_rfl) (by kernel_rfl) (fun _ _ _ h => h) (by rfl) ?_ ?_
            rotate_left
            · (intro w hSw; (try dsimp only at hSw); go_simp; try with_reducible rfl)
            try simp only [Act.put, List.setIfInBounds_toArray, List.set_cons_zero, List.set_cons_succ]
            refine step_yes 5 20 ?_ (by assumption) rfl rfl (by kernel_rfl) (by kernel_rfl) (by kernel_rfl) (fun _ _ _ h => h) (by rfl) ?_ ?_
            rotate_left
            · (intro w hSw; (try dsimp only at hSw); go_simp; try with_reducible rfl)
            try simp only [Act.put, List.setIfInBounds_toArray, List.set_cons_zero, List.set_cons_succ]
            refine step_yes 6 21 ?_ (by assumption) rfl rfl (by kernel_rfl) (by kernel_rfl) (by kernel_rfl) (fun _ _ _ h => h) (by rfl) ?_ ?_
            rotate_left
            · (intro w hSw; (try dsimp only at hSw); go_simp; try with_reducible rfl)
            try simp only [Act.put, List.setIfInBounds_toArray, List.set_cons_zero, List.set_cons_succ]
            refine step_no 7 22 (by assumption) rfl rfl (by kernel_rfl) (by kernel_rfl) (by kernel_rfl) (fun _ _ _ h => h) (by rfl) ?_
            try simp only [Act.put, List.setIfInBounds_toArray, List.set_cons_zero, List.set_cons_succ]
            refine step_no 8 23 (by assumption) rfl rfl (by kernel_rfl) (by kernel_rfl) (by kernel_rfl) (fun _ _ _ h => h) (by rfl) ?_
            try simp only [Act.put, List.setIfInBounds_toArray, List.set_cons_zero, List.set_cons_succ]
            refine step_no 9 24 (by assumption) rfl rfl (by kernel_rfl) (by kernel_rfl) (by kernel_rfl) (fun _ _ _ h => h) (by rfl) ?_
            try simp only [Act.put, List.setIfInBounds_toArray, List.set_cons_zero, List.set_cons_succ]
            refine step_no 10 25 (by assumption) rfl rfl (by kernel_rfl) (by kernel_rfl) (by kernel_rfl) (fun _ _ _ h => h) (by rfl) ?_
            try simp only [Act.put, List.setIfInBounds_toArray, List.set_cons_zero, List.set_cons_succ]
            refine step_no 11 26 (by assumption) rfl rfl (by kernel_rfl) (by kernel_rfl) (by kernel_rfl) (fun _ _ _ h => h) (by rfl) ?_
            try simp only [Act.put, List.setIfInBounds_toArray, List.set_cons_zero, List.set_cons_succ]
            refine step_no 12 27 (by assumption) rfl rfl (by kernel_rfl) (by kernel_rfl) (by kernel_rfl) (fun _ _ _ h => h) (by rfl) ?_
            try simp only [Act.put, List.setIfInBounds_toArray, List.set_cons_zero, List.set_cons_succ]
            refine step_no 13 28 (by assumption) rfl rfl (by kernel_rfl) (by kernel_rfl) (by kernel_rfl) (fun _ _ _ h => h) (by rfl) ?_
            try simp only [Act.put, List.setIfInBounds_toArray, List.set_cons_zero, List.set_cons_succ]
            refine step_no 14 29 (by assumption) rfl rfl (by kernel_rfl) (by kernel_rfl) (by kernel_rfl) (fun _ _ _ h => h) (by rfl) ?_
            try simp only [Act.put, List.setIfInBounds_toArray, List.set_cons_zero, List.set_cons_succ]
            refine step_yes 15 30 ?_ (by assumption) rfl rfl (by kernel_rfl) (by kernel_rfl) (by kernel_rfl) (fun _ _ _ h => h) (by rfl) ?_ ?_
            rotate_left
            · (intro w hSw; (try dsimp only at hSw); go_simp; try with_reducible rfl)
            try simp only [Act.put, List.setIfInBounds_toArray, List.set_cons_zero, List.set_cons_succ]
            refine step_yes 16 31 ?_ (by assumption) rfl rfl (by kernel_rfl) (by kernel_rfl) (by kernel_rfl) (fun _ _ _ h => h) (by rfl) ?_ ?_
            rotate_left
            · (intro w hSw; (try dsimp only at hSw); go_simp; try with_reducible rfl)
            try simp only [Act.put, List.setIfInBounds_toArray, List.set_cons_zero, List.set_cons_succ]
            refine wpAnyH_done (by kernel_rfl) ?_ _
            go_wp2
            have e1 : prevS xs (0 + 1) = some x := by unfold prevS; rw [if_neg (by omega)]; exact EX.out
            have CE := Lib.hid (CW.out.trans C9.out)
            refine ⟨⟨0 + 1, by omega, by simp, CE.out, ?_, ?_⟩, by simp [RowKit.intOf]; omega⟩
            · rw [HOK.out]; simp [prevS]
            · rw [e1]; rintro y ⟨⟩; exact HFN.out
          · have hk1 : k - 1 < xs.length := by omega
            have ey := List.getElem?_eq_getElem hk1
            generalize xs[k - 1] = y at *
            have ep : prevS xs k = some y := by unfold prevS; rw [if_neg h0]; exact ey
            have EY := Lib.hid ey
            have HFY := Lib.hid (HI.out.2.2 y ep)
            rw [ep] at HOK
            dsimp only at HOK
            clear ey ep
            have hy0 : ∀ w', Chg [] w2 w' → w'.cell? ⟨g, o + (k - 1) * 3, none⟩ = some (.int .i64 y.1) ∧ w'.cell? ⟨g, o + (k - 1) * 3 + 1, none⟩ = some (.int .i64 y.2.1) ∧ w'.cell? ⟨g, o + (k - 1) * 3 + 2, none⟩ = some (.int .i64 y.2.2) := fun w' hc => spanCells (HX.out.chg (CW.out.trans hc) (by simp)) EY.out
            have HY0 := Lib.hid hy0
            clear hy0
            have LA := Lib.hid (fun w => apart_any w y.1 y.2.1 y.2.2 x.1 x.2.1 x.2.2 (by have := HFY.out; unfold FineS at this; omega) (by have := HFY.out; unfold FineS at this; omega))
            have hk2 : ((k : Int) - 1) = ((k - 1 : Nat) : Int) := by omega
            have hk3 : (0 : Int) < (k : Int) := by omega
            have hk4 : ((k - 1 : Nat) : Int) < (xs.length : Int) := by omega
            have hk5 : (0 : Int) ≤ ((k - 1 : Nat) : Int) := by omega
            have hk6 : IntKind.i64.wrap ((k - 1 : Nat) : Int) = ((k - 1 : Nat) : Int) := IntWalk.i64_in _ (by omega)
            have hk7 : decide (0 < k) = true := by simp; omega
            refine (Bool.eq_false_or_eq_true (decide (ApartS y.1 y.2.2 x.1 x.2.1))).elim (fun hA => ?AT) (fun hA => ?AF)
            case AT =>
              rw [hA] at LA HOK
              clear hA
              refine wp_region_held_drew (S := fun w' => Chg [] w2 w') (by kernel_rfl) (Chg.refl [] w2).drew (fun hHeld => ?_)
              refine step_yes 0 15 ?_ (by assumption) rfl rfl (by kernel_rfl) (by kernel_rfl) (by kernel_rfl) (fun _ _ _ h => h) (by rfl) ?_ ?_
              rotate_left
              · (intro w hSw; (try dsimp only at hSw); have hq := HC0.out _ hSw; obtain ⟨q0, q1, q2⟩ := hq; go_simp; try with_reducible rfl)
              try simp only [Act.put, List.setIfInBounds_toArray, List.set_cons_zero, List.set_cons_succ]
              refine wpAnyH_ready (rs := [1]) (by kernel_rfl) (by simp) ?_
              refine AllReadyH.cons rfl (fun K hK => ?_) AllReadyH.nil
              replace hK := Lib.hid hK
              go_simp
              refine (LS.out _).mono ?_
              rintro e w9 ⟨rfl, hc⟩
              have C9 := Lib.hid (hHeld.trans hc)
              clear hc hHeld
              refine hK.out _ _ C9.out (fun hHeld => ?_)
              clear hK K
              try simp only [Act.put, List.setIfInBounds_toArray, List.set_cons_zero, List.set_cons_succ]
              refine step_yes 2 17 ?_ (by assumption) rfl rfl (by kernel_rfl) (by kernel_rfl) (by kernel_rfl) (fun _ _ _ h => h) (by rfl) ?_ ?_
              rotate_left
              · (intro w hSw; (try dsimp only at hSw); go_simp; try with_reducible rfl)
              try simp only [Act.put, List.setIfInBounds_toArray, List.set_cons_zero, List.set_cons_succ]
              refine step_yes 3 18 ?_ (by assumption) rfl rfl (by kernel_rfl) (by kernel_rfl) (by kernel_rfl) (fun _ _ _ h => h) (by rfl) ?_ ?_
              rotate_left
              · (intro w hSw; (try dsimp only at hSw); go_simp; try with_reducible rfl)
              try simp only [Act.put, List.setIfInBounds_toArray, List.set_cons_zero, List.set_cons_succ]
              refine step_yes 4 19 ?_ (by assumption) rfl rfl (by kernel_rfl) (by kernel_rfl) (by kernel_rfl) (fun _ _ _ h => h) (by rfl) ?_ ?_
              rotate_left
              · (intro w hSw; (try dsimp only at hSw); go_simp; try with_reducible rfl)
              try simp only [Act.put, List.setIfInBounds_toArray, List.set_cons_zero, List.set_cons_succ]
              refine step_yes 5 20 ?_ (by assumption) rfl rfl (by kernel_rfl) (by kernel_rfl) (by kernel_rfl) (fun _ _ _ h => h) (by rfl) ?_ ?_
              rotate_left
              · (intro w hSw; (try dsimp only at hSw); go_simp; try with_reducible rfl)
              try simp only [Act.put, List.setIfInBounds_toArray, List.set_cons_zero, List.set_cons_succ]
              refine step_yes 6 21 ?_ (by assumption) rfl rfl (by kernel_rfl) (by kernel_rfl) (by kernel_rfl) (fun _ _ _ h => h) (by rfl) ?_ ?_
              rotate_left
              · (intro w hSw; (try dsimp only at hSw); go_simp; try with_reducible rfl)
              try simp only [Act.put, List.setIfInBounds_toArray, List.set_cons_zero, List.set_cons_succ]
              refine step_yes 7 22 ?_ (by assumption) rfl rfl (by kernel_rfl) (by kernel_rfl) (by kernel_rfl) (fun _ _ _ h => h) (by rfl) ?_ ?_
              rotate_left
              · (intro w hSw; (try dsimp only at hSw); go_simp; try with_reducible rfl)
              try simp only [Act.put, List.setIfInBounds_toArray, List.set_cons_zero, List.set_cons_succ]
              refine step_yes 8 23 ?_ (by assumption) rfl rfl (by kernel_rfl) (by kernel_rfl) (by kernel_rfl) (fun _ _ _ h => h) (by rfl) ?_ ?_
              rotate_left
              · (intro w hSw; (try dsimp only at hSw); go_simp; try with_reducible rfl)
              try simp only [Act.put, List.setIfInBounds_toArray, List.set_cons_zero, List.set_cons_succ]
              refine step_yes 9 24 ?_ (by assumption) rfl rfl (by kernel_rfl) (by kernel_rfl) (by kernel_rfl) (fun _ _ _ h => h) (by rfl) ?_ ?_
              rotate_left
              · (intro w hSw; (try dsimp only at hSw); go_simp; try with_reducible rfl)
              try simp only [Act.put, List.setIfInBounds_toArray, List.set_cons_zero, List.set_cons_succ]
              refine step_yes 10 25 ?_ (by assumption) rfl rfl (by kernel_rfl) (by kernel_rfl) (by kernel_rfl) (fun _ _ _ h => h) (by rfl) ?_ ?_
              rotate_left
              · (intro w hSw; (try dsimp only at hSw); go_simp; try with_reducible rfl)
              try simp only [Act.put, List.setIfInBounds_toArray, List.set_cons_zero, List.set_cons_succ]
              refine step_yes 11 26 ?_ (by assumption) rfl rfl (by kernel_rfl) (by kernel_rfl) (by kernel_rfl) (fun _ _ _ h => h) (by rfl) ?_ ?_
              rotate_left
              · (intro w hSw; (try dsimp only at hSw); have hq := HY0.out _ hSw; obtain ⟨q0, q1, q2⟩ := hq; go_simp; try with_reducible rfl)
              try simp only [Act.put, List.setIfInBounds_toArray, List.set_cons_zero, List.set_cons_succ]
              refine step_yes 12 27 ?_ (by assumption) rfl rfl (by kernel_rfl) (by kernel_rfl) (by kernel_rfl) (fun _ _ _ h => h) (by rfl) ?_ ?_
              rotate_left
              · (intro w hSw; (try dsimp only at hSw); have hq := HC0.out _ hSw; obtain ⟨q0, q1, q2⟩ := hq; go_simp; try with_reducible rfl)
              try simp only [Act.put, List.setIfInBounds_toArray, List.set_cons_zero, List.set_cons_succ]
              refine wpAnyH_ready (rs := [13]) (by kernel_rfl) (by simp) ?_
              refine AllReadyH.cons rfl (fun K hK => ?_) AllReadyH.nil
              replace hK := Lib.hid hK
              go_simp
              refine (LA.out _).mono ?_
              rintro e v9 ⟨rfl, hc⟩
              have D9 := Lib.hid (C9.out.trans hc)
              clear hc C9
              have C9 := D9
              clear D9
              refine hK.out _ _ C9.out (fun hHeld => ?_)
              clear hK K
              try simp only [Act.put, List.setIfInBounds_toArray, List.set_cons_zero, List.set_cons_succ]
              refine step_yes 14 29 ?_ (by assumption) rfl rfl (by kernel_rfl) (by kernel_rfl) (by kernel_rfl) (fun _ _ _ h => h) (by rfl) ?_ ?_
              rotate_left
              · (intro w hSw; (try dsimp only at hSw); go_simp; try with_reducible rfl)
              try simp only [Act.put, List.setIfInBounds_toArray, List.set_cons_zero, List.set_cons_succ]
              refine step_yes 15 30 ?_ (by assumption) rfl rfl (by kernel_rfl) (by kernel_rfl) (by kernel_rfl) (fun _ _ _ h => h) (by rfl) ?_ ?_
              rotate_left
              · (intro w hSw; (try dsimp only at hSw); go_simp; try with_reducible rfl)
              try simp only [Act.put, List.setIfInBounds_toArray, List.set_cons_zero, List.set_cons_succ]
              refine step_yes 16 31 ?_ (by assumption) rfl rfl (by kernel_rfl) (by kernel_rfl) (by kernel_rfl) (fun _ _ _ h => h) (by rfl) ?_ ?_
              rotate_left
              · (intro w hSw; (try dsimp only at hSw); go_simp; try with_reducible rfl)
              try simp only [Act.put, List.setIfInBounds_toArray, List.set_cons_zero, List.set_cons_succ]
              refine wpAnyH_done (by kernel_rfl) ?_ _
              go_wp2
              have e1 : prevS xs (k + 1) = some x := by unfold prevS; rw [if_neg (by omega)]; exact EX.out
              have CE := Lib.hid (CW.out.trans C9.out)
              refine ⟨⟨k + 1, by omega, by simp, CE.out, ?_, ?_⟩, by simp [RowKit.intOf]; omega⟩
              · rw [HOK.out]; simp [e1]
              · rw [e1]; rintro y ⟨⟩; exact HFN.out
            case AF =>
              rw [hA] at LA HOK
              clear hA
              refine wp_region_held_drew (S := fun w' => Chg [] w2 w') (by kernel_rfl) (Chg.refl [] w2).drew (fun hHeld => ?_)
              refine step_yes 0 15 ?_ (by assumption) rfl rfl (by kernel_rfl) (by kernel_rfl) (by kernel_rfl) (fun _ _ _ h => h) (by rfl) ?_ ?_
              rotate_left
              · (intro w hSw; (try dsimp only at hSw); have hq := HC0.out _ hSw; obtain ⟨q0, q1, q2⟩ := hq; go_simp; try with_reducible rfl)
              try simp only [Act.put, List.setIfInBounds_toArray, List.set_cons_zero, List.set_cons_succ]
              refine wpAnyH_ready (rs := [1]) (by kernel_rfl) (by simp) ?_
              refine AllReadyH.cons rfl (fun K hK => ?_) AllReadyH.nil
              replace hK := Lib.hid hK
              go_simp
              refine (LS.out _).mono ?_
              rintro e w9 ⟨rfl, hc⟩
              have C9 := Lib.hid (hHeld.trans hc)
              clear hc hHeld
              refine hK.out _ _ C9.out (fun hHeld => ?_)
              clear hK K
              try simp only [Act.put, List.setIfInBounds_toArray, List.set_cons_zero, List.set_cons_succ]
              refine step_yes 2 17 ?_ (by assumption) rfl rfl (by kernel_rfl) (by kernel_rfl) (by kernel_rfl) (fun _ _ _ h => h) (by rfl) ?_ ?_
              rotate_left
              · (intro w hSw; (try dsimp only at hSw); go_simp; try with_reducible rfl)
              try simp only [Act.put, List.setIfInBounds_toArray, List.set_cons_zero, List.set_cons_succ]
              refine step_yes 3 18 ?_ (by assumption) rfl rfl (by kernel_rfl) (by kernel_rfl) (by kernel_rfl) (fun _ _ _ h => h) (by rfl) ?_ ?_
              rotate_left
              · (intro w hSw; (try dsimp only at hSw); go_simp; try with_reducible rfl)
              try simp only [Act.put, List.setIfInBounds_toArray, List.set_cons_zero, List.set_cons_succ]
              refine step_yes 4 19 ?_ (by assumption) rfl rfl (by kernel_rfl) (by kernel_rfl) (by kernel_rfl) (fun _ _ _ h => h) (by rfl) ?_ ?_
              rotate_left
              · (intro w hSw; (try dsimp only at hSw); go_simp; try with_reducible rfl)
              try simp only [Act.put, List.setIfInBounds_toArray, List.set_cons_zero, List.set_cons_succ]
              refine step_yes 5 20 ?_ (by assumption) rfl rfl (by kernel_rfl) (by kernel_rfl) (by kernel_rfl) (fun _ _ _ h => h) (by rfl) ?_ ?_
              rotate_left
              · (intro w hSw; (try dsimp only at hSw); go_simp; try with_reducible rfl)
              try simp only [Act.put, List.setIfInBounds_toArray, List.set_cons_zero, List.set_cons_succ]
              refine step_yes 6 21 ?_ (by assumption) rfl rfl (by kernel_rfl) (by kernel_rfl) (by kernel_rfl) (fun _ _ _ h => h) (by rfl) ?_ ?_
              rotate_left
              · (intro w hSw; (try dsimp only at hSw); go_simp; try with_reducible rfl)
              try simp only [Act.put, List.setIfInBounds_toArray, List.set_cons_zero, List.set_cons_succ]
              refine step_yes 7 22 ?_ (by assumption) rfl rfl (by kernel_rfl) (by kernel_rfl) (by kernel_rfl) (fun _ _ _ h => h) (by rfl) ?_ ?_
              rotate_left
              · (intro w hSw; (try dsimp only at hSw); go_simp; try with_reducible rfl)
              try simp only [Act.put, List.setIfInBounds_toArray, List.set_cons_zero, List.set_cons_succ]
              refine step_yes 8 23 ?_ (by assumption) rfl rfl (by kernel_rfl) (by kernel_rfl) (by kernel_rfl) (fun _ _ _ h => h) (by rfl) ?_ ?_
              rotate_left
              · (intro w hSw; (try dsimp only at hSw); go_simp; try with_reducible rfl)
              try simp only [Act.put, List.setIfInBounds_toArray, List.set_cons_zero, List.set_cons_succ]
              refine step_yes 9 24 ?_ (by assumption) rfl rfl (by kernel_rfl) (by kernel_rfl) (by kernel_rfl) (fun _ _ _ h => h) (by rfl) ?_ ?_
              rotate_left
              · (intro w hSw; (try dsimp only at hSw); go_simp; try with_reducible rfl)
              try simp only [Act.put, List.setIfInBounds_toArray, List.set_cons_zero, List.set_cons_succ]
              refine step_yes 10 25 ?_ (by assumption) rfl rfl (by kernel_rfl) (by kernel_rfl) (by kernel_rfl) (fun _ _ _ h => h) (by rfl) ?_ ?_
              rotate_left
              · (intro w hSw; (try dsimp only at hSw); go_simp; try with_reducible rfl)
              try simp only [Act.put, List.setIfInBounds_toArray, List.set_cons_zero, List.set_cons_succ]
              refine step_yes 11 26 ?_ (by assumption) rfl rfl (by kernel_rfl) (by kernel_rfl) (by kernel_rfl) (fun _ _ _ h => h) (by rfl) ?_ ?_
              rotate_left
              · (intro w hSw; (try dsimp only at hSw); have hq := HY0.out _ hSw; obtain ⟨q0, q1, q2⟩ := hq; go_simp; try with_reducible rfl)
              try simp only [Act.put, List.setIfInBounds_toArray, List.set_cons_zero, List.set_cons_succ]
              refine step_yes 12 27 ?_ (by assumption) rfl rfl (by kernel_rfl) (by kernel_rfl) (by kernel_rfl) (fun _ _ _ h => h) (by rfl) ?_ ?_
              rotate_left
              · (intro w hSw; (try dsimp only at hSw); have hq := HC0.out _ hSw; obtain ⟨q0, q1, q2⟩ := hq; go_simp; try with_reducible rfl)
              try simp only [Act.put, List.setIfInBounds_toArray, List.set_cons_zero, List.set_cons_succ]
              refine wpAnyH_ready (rs := [13]) (by kernel_rfl) (by simp) ?_
              refine AllReadyH.cons rfl (fun K hK => ?_) AllReadyH.nil
              replace hK := Lib.hid hK
              go_simp
              refine (LA.out _).mono ?_
              rintro e v9 ⟨rfl, hc⟩
              have D9 := Lib.hid (C9.out.trans hc)
              clear hc C9
              have C9 := D9
              clear D9
              refine hK.out _ _ C9.out (fun hHeld => ?_)
              clear hK K
              try simp only [Act.put, List.setIfInBounds_toArray, List.set_cons_zero, List.set_cons_succ]
              refine step_yes 14 29 ?_ (by assumption) rfl rfl (by kernel_rfl) (by kernel_rfl) (by kernel_rfl) (fun _ _ _ h => h) (by rfl) ?_ ?_
              rotate_left
              · (intro w hSw; (try dsimp only at hSw); go_simp; try with_reducible rfl)
              try simp only [Act.put, List.setIfInBounds_toArray, List.set_cons_zero, List.set_cons_succ]
              refine step_yes 15 30 ?_ (by assumption) rfl rfl (by kernel_rfl) (by kernel_rfl) (by kernel_rfl) (fun _ _ _ h => h) (by rfl) ?_ ?_
              rotate_left
              · (intro w hSw; (try dsimp only at hSw); go_simp; try with_reducible rfl)
              try simp only [Act.put, List.setIfInBounds_toArray, List.set_cons_zero, List.set_cons_succ]
              refine step_yes 16 31 ?_ (by assumption) rfl rfl (by kernel_rfl) (by kernel_rfl) (by kernel_rfl) (fun _ _ _ h => h) (by rfl) ?_ ?_
              rotate_left
              · (intro w hSw; (try dsimp only at hSw); go_simp; try with_reducible rfl)
              try simp only [Act.put, List.setIfInBounds_toArray, List.set_cons_zero, List.set_cons_succ]
              have hv2 : ¬ okFrom none xs = true := by rw [HOK.out]; simp
              have HV2 : V = 2 := HV.out.trans (if_neg hv2)
              subst HV2
              clear hv2
              refine wpAnyH_done (by kernel_rfl) ?_ _
              have CE := Lib.hid (CW.out.trans C9.out)
              go_wp2
              go_ret
              exact ⟨rfl, CE.out⟩
        · have hd : decide (FineS x.1 x.2.1 x.2.2) = false := decide_eq_false hf
          rw [hd] at LS HOK
          clear hd hf
          refine wp_region_held_drew (S := fun w' => Chg [] w2 w') (by kernel_rfl) (Chg.refl [] w2).drew (fun hHeld => ?_)
          refine step_yes 0 15 ?_ (by assumption) rfl rfl (by kernel_rfl) (by kernel_rfl) (by kernel_rfl) (fun _ _ _ h => h) (by rfl) ?_ ?_
          rotate_left
          · (intro w hSw; (try dsimp only at hSw); have hq := HC0.out _ hSw; obtain ⟨q0, q1, q2⟩ := hq; go_simp; try with_reducible rfl)
          try simp only [Act.put, List.setIfInBounds_toArray, List.set_cons_zero, List.set_cons_succ]
          refine wpAnyH_ready (rs := [1]) (by kernel_rfl) (by simp) ?_
          refine AllReadyH.cons rfl (fun K hK => ?_) AllReadyH.nil
          replace hK := Lib.hid hK
          go_simp
          refine (LS.out _).mono ?_
          rintro e w9 ⟨rfl, hc⟩
          have C9 := Lib.hid (hHeld.trans hc)
          clear hc hHeld
          refine hK.out _ _ C9.out (fun hHeld => ?_)
          clear hK K
          try simp only [Act.put, List.setIfInBounds_toArray, List.set_cons_zero, List.set_cons_succ]
          refine step_yes 2 17 ?_ (by assumption) rfl rfl (by kernel_rfl) (by kernel_rfl) (by kernel_rfl) (fun _ _ _ h => h) (by rfl) ?_ ?_
          rotate_left
          · (intro w hSw; (try dsimp only at hSw); go_simp; try with_reducible rfl)
          try simp only [Act.put, List.setIfInBounds_toArray, List.set_cons_zero, List.set_cons_succ]
          refine step_yes 3 18 ?_ (by assumption) rfl rfl (by kernel_rfl) (by kernel_rfl) (by kernel_rfl) (fun _ _ _ h => h) (by rfl) ?_ ?_
          rotate_left
          · (intro w hSw; (try dsimp only at hSw); go_simp; try with_reducible rfl)
          try simp only [Act.put, List.setIfInBounds_toArray, List.set_cons_zero, List.set_cons_succ]
          refine step_no 4 19 (by assumption) rfl rfl (by kernel_rfl) (by kernel_rfl) (by kernel_rfl) (fun _ _ _ h => h) (by rfl) ?_
          try simp only [Act.put, List.setIfInBounds_toArray, List.set_cons_zero, List.set_cons_succ]
          refine step_no 5 20 (by assumption) rfl rfl (by kernel_rfl) (by kernel_rfl) (by kernel_rfl) (fun _ _ _ h => h) (by rfl) ?_
          try simp only [Act.put, List.setIfInBounds_toArray, List.set_cons_zero, List.set_cons_succ]
          refine step_no 6 21 (by assumption) rfl rfl (by kernel_rfl) (by kernel_rfl) (by kernel_rfl) (fun _ _ _ h => h) (by rfl) ?_
          try simp only [Act.put, List.setIfInBounds_toArray, List.set_cons_zero, List.set_cons_succ]
          refine step_no 7 22 (by assumption) rfl rfl (by kernel_rfl) (by kernel_rfl) (by kernel_rfl) (fun _ _ _ h => h) (by rfl) ?_
          try simp only [Act.put, List.setIfInBounds_toArray, List.set_cons_zero, List.set_cons_succ]
          refine step_no 8 23 (by assumption) rfl rfl (by kernel_rfl) (by kernel_rfl) (by kernel_rfl) (fun _ _ _ h => h) (by rfl) ?_
          try simp only [Act.put, List.setIfInBounds_toArray, List.set_cons_zero, List.set_cons_succ]
          refine step_no 9 24 (by assumption) rfl rfl (by kernel_rfl) (by kernel_rfl) (by kernel_rfl) (fun _ _ _ h => h) (by rfl) ?_
          try simp only [Act.put, List.setIfInBounds_toArray, List.set_cons_zero, List.set_cons_succ]
          refine step_no 10 25 (by assumption) rfl rfl (by kernel_rfl) (by kernel_rfl) (by kernel_rfl) (fun _ _ _ h => h) (by rfl) ?_
          try simp only [Act.put, List.setIfInBounds_toArray, List.set_cons_zero, List.set_cons_succ]
          refine step_no 11 26 (by assumption) rfl rfl (by kernel_rfl) (by kernel_rfl) (by kernel_rfl) (fun _ _ _ h => h) (by rfl) ?_
          try simp only [Act.put, List.setIfInBounds_toArray, List.set_cons_zero, List.set_cons_succ]
          refine step_no 12 27 (by assumption) rfl rfl (by kernel_rfl) (by kernel_rfl) (by kernel_rfl) (fun _ _ _ h => h) (by rfl) ?_
          try simp only [Act.put, List.setIfInBounds_toArray, List.set_cons_zero, List.set_cons_succ]
          refine step_no 13 28 (by assumption) rfl rfl (by kernel_rfl) (by kernel_rfl) (by kernel_rfl) (fun _ _ _ h => h) (by rfl) ?_
          try simp only [Act.put, List.setIfInBounds_toArray, List.set_cons_zero, List.set_cons_succ]
          refine step_no 14 29 (by assumption) rfl rfl (by kernel_rfl) (by kernel_rfl) (by kernel_rfl) (fun _ _ _ h => h) (by rfl) ?_
          try simp only [Act.put, List.setIfInBounds_toArray, List.set_cons_zero, List.set_cons_succ]
          refine step_no 15 30 (by assumption) rfl rfl (by kernel_rfl) (by kernel_rfl) (by kernel_rfl) (fun _ _ _ h => h) (by rfl) ?_
          try simp only [Act.put, List.setIfInBounds_toArray, List.set_cons_zero, List.set_cons_succ]
          refine step_yes 16 31 ?_ (by assumption) rfl rfl (by kernel_rfl) (by kernel_rfl) (by kernel_rfl) (fun _ _ _ h => h) (by rfl) ?_ ?_
          rotate_left
          · (intro w hSw; (try dsimp only at hSw); go_simp; try with_reducible rfl)
          try simp only [Act.put, List.setIfInBounds_toArray, List.set_cons_zero, List.set_cons_succ]
          have hv2 : ¬ okFrom none xs = true := by rw [HOK.out]; simp
          have HV2 : V = 2 := HV.out.trans (if_neg hv2)
          subst HV2
          clear hv2
          refine wpAnyH_done (by kernel_rfl) ?_ _
          have CE := Lib.hid (CW.out.trans C9.out)
          go_wp2
          go_ret
          exact ⟨rfl, CE.out⟩
      · obtain rfl : k = xs.length := by omega
        have hv := HI.out.2.1
        rw [List.drop_length] at hv
        have hv2 : okFrom none xs = true := by rw [hv]; cases prevS xs xs.length <;> rfl
        have HV2 : V = 0 := HV.out.trans (if_pos hv2)
        subst HV2
        clear hv hv2
        go_wp2
        go_ret
        exact ⟨rfl, HI.out.1⟩
end
section
set_option linter.unusedSimpArgs false
set_option linter.unusedVariables false

theorem ok_some : ∀ (l : List Sp) (y : Sp), y.2.1 ≤ y.2.2 → okFrom (some y) l = true → (∀ x ∈ l, FineS x.1 x.2.1 x.2.2 ∧ Ap y x) ∧ l.Pairwise Ap
  | [], y, _, _ => ⟨by simp, List.Pairwise.nil⟩
  | x :: l, y, hy, h => by
    simp only [okFrom, Bool.and_eq_true, decide_eq_true_eq] at h
    obtain ⟨⟨h1, h2⟩, h3⟩ := h
    have ox : x.2.1 ≤ x.2.2 := h1.2.2.2.1
    obtain ⟨a, b⟩ := ok_some l x ox h3
    have hyx : Ap y x := h2
    refine ⟨fun z hz => ?_, List.pairwise_cons.2 ⟨fun z hz => (a z hz).2, b⟩⟩
    rcases List.mem_cons.1 hz with rfl | q
    · exact ⟨h1, hyx⟩
    · exact ⟨(a z q).1, hyx.trans (a z q).2 ox⟩
theorem some_ok : ∀ (l : List Sp) (y : Sp), (∀ x ∈ l, FineS x.1 x.2.1 x.2.2 ∧ Ap y x) → l.Pairwise Ap → okFrom (some y) l = true
  | [], y, _, _ => rfl
  | x :: l, y, h, hp => by
    have hp' := List.pairwise_cons.1 hp
    simp only [okFrom, Bool.and_eq_true, decide_eq_true_eq]
    exact ⟨⟨(h x (by simp)).1, (h x (by simp)).2⟩, some_ok l x (fun z hz => ⟨(h z (by simp [hz])).1, hp'.1 z hz⟩) hp'.2⟩
theorem wf_of_chk {xs : List Sp} (h : chkS xs = 0) : WfC xs ∧ xs.length ≤ 4000 := by
  unfold chkS at h
  split at h
  · rename_i hc
    refine ⟨?_, hc.1⟩
    cases xs with
    | nil => exact ⟨norm_nil, by simp⟩
    | cons x l =>
      have h2 := hc.2
      simp only [okFrom, Bool.and_eq_true, decide_eq_true_eq] at h2
      obtain ⟨h1, h3⟩ := h2
      have ox : x.2.1 ≤ x.2.2 := h1.2.2.2.1
      obtain ⟨a, b⟩ := ok_some l x ox h3
      have fine : ∀ z ∈ x :: l, FineS z.1 z.2.1 z.2.2 := fun z hz => by
        rcases List.mem_cons.1 hz with rfl | q
        · exact h1
        · exact (a z q).1
      exact ⟨⟨fun z hz => (fine z hz).2.2.2.1, List.pairwise_cons.2 ⟨fun z hz => (a z hz).2, b⟩⟩, fun z hz => by have := fine z hz; unfold FineS at this; omega⟩
  · exact absurd h (by decide)
theorem chk_of_wf {xs : List Sp} (h : WfC xs) (hl : xs.length ≤ 4000) : chkS xs = 0 := by
  unfold chkS
  rw [if_pos]
  refine ⟨hl, ?_⟩
  have fine : ∀ z ∈ xs, FineS z.1 z.2.1 z.2.2 := fun z hz => by
    have := h.2 z hz
    have o := h.1.1 z hz
    unfold FineS SpOk at *
    omega
  cases xs with
  | nil => rfl
  | cons x l =>
    have hp := List.pairwise_cons.1 h.1.2
    simp only [okFrom, Bool.and_eq_true, decide_eq_true_eq]
    exact ⟨fine x (by simp), some_ok l x (fun z hz => ⟨fine z (by simp [hz]), hp.1 z hz⟩) hp.2⟩
theorem chk_two (xs : List Sp) : chkS xs = 0 ∨ chkS xs = 2 := by unfold chkS; split <;> simp
end
section
set_option linter.unusedSimpArgs false
set_option linter.unusedVariables false
def kE (x y : Bool) : Bool := x || y
/-- The errno, and the past that is told. -/
def boundP (l : List Sp) : Int × List Sp := if 4000 < l.length then (8, []) else (0, l)
def joinE (a b : List Sp) : Int × List Sp := if chkS a = 0 ∧ chkS b = 0 then boundP (tidyS (a ++ b)) else (2, [])
theorem memb_iff {l : List Sp} {n s : Int} : memb l n s = true ↔ Mem l n s := by unfold memb; simp
theorem join_eq {a b pre : List Sp} (ha : WfC a) (hb : WfC b) (h : SwInv kE a b [] [] pre) : pre.foldl pushP [] = tidyS (a ++ b) := by
  obtain ⟨c, d⟩ := h.done (by rfl)
  obtain ⟨e, f⟩ := tidy_norm (l := a ++ b) (fun x hx => (List.mem_append.1 hx).elim (fun q => ha.1.1 x q) (fun q => hb.1.1 x q))
  refine norm_ext c e (fun n s => ?_)
  rw [d n s, f n s, mem_append]
  unfold kE
  rw [Bool.or_eq_true, memb_iff, memb_iff]
end
end Go.Proofs.YtgafkaigkaghcaaGreatDoor
