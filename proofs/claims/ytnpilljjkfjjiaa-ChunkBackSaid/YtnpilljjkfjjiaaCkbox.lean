/- A box, purely; Drop, begin, Item, Used. -/
import Derived.Test.YtnpilljjkfjjiaaCkm
namespace Go.Proofs.Ytnpilljjkfjjiaa
open Go.RowKit
set_option linter.unusedSimpArgs false
set_option linter.unusedVariables false



theorem Chg.into {T : List Nat} {x y : World} (h : Chg [] x y) : Chg T x y := h.mono (fun i hi => by cases hi)
theorem Chg.one {b : Nat} {l : List Nat} {x y : World} (h : Chg [b] x y) : Chg (b :: l) x y := h.mono (fun i hi => .inl (by simp at hi; simp [hi]))

/-- A box: the item's number, its size, what came of it. -/
abbrev BoxT := Int × Int × List UInt8
def finC (it sz : Int) (zs : List UInt8) : List UInt8 × Int × BoxT := if (zs.length : Int) < sz then ([], 0, it, sz, zs) else (zs, 0, 0, 0, [])
/-- What a box answers to a piece: bytes, an error, the box. -/
def putC (q : Int) (st : BoxT) (k i s a : Int) (ys : List UInt8) : List UInt8 × Int × BoxT :=
  if chkM k i s a ys.length ≠ 0 ∨ k ≠ 1 then ([], 2, st)
  else if a = 0 then (if q < s then ([], 8, 0, 0, []) else finC i s ys)
  else if st.1 = i ∧ st.2.1 = s ∧ (st.2.2.length : Int) = a then finC i s (st.2.2 ++ ys) else ([], 9, st)
/-- What stays true of a box. -/
def InvC (q : Int) (st : BoxT) : Prop := (st.2.2.length : Int) ≤ q ∧ st.2.1 ≤ q ∧ st.2.2.length ≤ 60000 ∧ st.2.1 ≤ 60000
theorem finC_inv {q it sz : Int} {zs : List UInt8} (h0 : 0 ≤ q) (h1 : sz ≤ q) (h2 : sz ≤ 60000) : InvC q (finC it sz zs).2.2 := by
  unfold finC InvC
  split
  · simp only
    refine ⟨by omega, h1, by omega, h2⟩
  · simp only [List.length_nil]
    refine ⟨by omega, by omega, by omega, by omega⟩
theorem chkM_zero {k i s a : Int} {len : Nat} (h : chkM k i s a len = 0) : FineM k i s a len := by
  unfold chkM at h
  split at h
  · assumption
  · cases h
theorem putC_fine {k i s a : Int} {ys : List UInt8} (h : ¬ (chkM k i s a ys.length ≠ 0 ∨ k ≠ 1)) : k = 1 ∧ PartP s a ys.length ∧ 1 ≤ i ∧ i ≤ 1099511627776 := by
  have h1 : chkM k i s a ys.length = 0 := Decidable.byContradiction fun e => h (.inl e)
  have h2 : k = 1 := Decidable.byContradiction fun e => h (.inr e)
  obtain ⟨i1, i2, h3⟩ := chkM_zero h1
  rcases h3 with ⟨_, h⟩ | ⟨h, _⟩
  · exact ⟨h2, h, i1, i2⟩
  · omega
theorem putC_inv {q : Int} {st : BoxT} {k i s a : Int} {ys : List UInt8} (h0 : 0 ≤ q) (h : InvC q st) : InvC q (putC q st k i s a ys).2.2 := by
  unfold putC
  split
  · exact h
  · rename_i hf
    obtain ⟨_, hp, _⟩ := putC_fine hf
    unfold PartP at hp
    split
    · split
      · unfold InvC; simp only [List.length_nil]; refine ⟨by omega, by omega, by omega, by omega⟩
      · exact finC_inv h0 (by omega) (by omega)
    · split
      · rename_i hm
        have := h.2.1
        exact finC_inv h0 (by omega) (by omega)
      · exact h
theorem putC_len {q : Int} {st : BoxT} {k i s a : Int} {ys : List UInt8} (h : InvC q st) : (putC q st k i s a ys).1.length ≤ 120000 := by
  have := h.2.2.1
  unfold putC
  split
  · simp
  · rename_i hf
    obtain ⟨_, hp, _⟩ := putC_fine hf
    unfold PartP at hp
    split
    · split
      · simp
      · unfold finC; split <;> simp; omega
    · split
      · unfold finC; split <;> simp; omega
      · simp
theorem putC_keeps {q : Int} {st : BoxT} {k i s a : Int} {ys : List UInt8} (h : (putC q st k i s a ys).2.1 ≠ 0) (ha : a ≠ 0 ∨ (putC q st k i s a ys).2.1 = 2) : (putC q st k i s a ys).2.2 = st := by
  unfold putC at h ha ⊢
  split
  · rfl
  · rename_i hf
    rw [if_neg hf] at h ha
    split
    · rename_i h0
      rw [if_pos h0] at h ha
      split
      · rename_i hq
        rw [if_pos hq] at ha
        rcases ha with ha | ha
        · exact absurd h0 ha
        · cases ha
      · rename_i hq
        rw [if_neg hq] at h
        exfalso; apply h; unfold finC; split <;> rfl
    · rename_i h0
      rw [if_neg h0] at h
      split
      · rename_i hm
        rw [if_pos hm] at h
        exfalso; apply h; unfold finC; split <;> rfl
      · rfl
theorem eqlPB (a : Addr) (w : World) : (binOp .eql 36 (.pointer (some a)) (.pointer (some a))).run Try.prog w = .ok (.bool true) w := by
  obtain ⟨j, hj⟩ := Option.isSome_iff_exists.1 (show (Try.prog.info? 51).isSome = true by kernel_rfl)
  exact run_eql_ptr_same w a Try.underlying36 hj
theorem box_put3 {w : World} {b : Nat} {a0 a1 a2 a3 a4 : Value} {T : TypeId} (v2 v3 v4 : Value) (h : w.heap[b]? = some (.cells #[a0, a1, a2, a3, a4] T (0, 0))) :
    (((w.setCell ⟨b, 2, none⟩ v2).setCell ⟨b, 3, none⟩ v3).setCell ⟨b, 4, none⟩ v4).heap[b]? = some (.cells #[a0, a1, v2, v3, v4] T (0, 0)) :=
  heap_setCell_same _ b 4 _ _ v4 (heap_setCell_same _ b 3 _ _ v3 (heap_setCell_same _ b 2 _ _ v2 h))
theorem box_put1 {w : World} {b : Nat} {a0 a1 a2 a3 a4 : Value} {T : TypeId} (v4 : Value) (h : w.heap[b]? = some (.cells #[a0, a1, a2, a3, a4] T (0, 0))) :
    (w.setCell ⟨b, 4, none⟩ v4).heap[b]? = some (.cells #[a0, a1, a2, a3, v4] T (0, 0)) := heap_setCell_same _ b 4 _ _ v4 h
theorem boq_put3 {w : World} {b : Nat} {a0 a1 a2 a3 : Value} {T : TypeId} (v1 v2 v3 : Value) (h : w.heap[b]? = some (.cells #[a0, a1, a2, a3] T (0, 0))) :
    (((w.setCell ⟨b, 1, none⟩ v1).setCell ⟨b, 2, none⟩ v2).setCell ⟨b, 3, none⟩ v3).heap[b]? = some (.cells #[a0, v1, v2, v3] T (0, 0)) :=
  heap_setCell_same _ b 3 _ _ v3 (heap_setCell_same _ b 2 _ _ v2 (heap_setCell_same _ b 1 _ _ v1 h))

/-- So many zeros. -/
def zeroRowC (n : Nat) : Array Value := ((List.replicate n (0 : UInt8)).map bv).toArray
theorem run_mkC (n : Nat) (h : n ≤ 281474976710656) (w : World) : (Instr.makeSlice 22 (.int .i64 (n : Int)) (.int .i64 (n : Int))).run Try.prog w = .ok (.slice (some ⟨w.heap.size, 0, none⟩) n n) (w.alloc (.cells (zeroRowC n) 5)) := by
  obtain ⟨i0, hi, hz0, hz1, hz2⟩ := info_parts info8
  have hr := run_make (P := Try.prog) w 22 5 i0 (.int .u8 0) Try.underlying22 hi hz0 .i64 .i64 n n (by omega) (by omega) (by rw [hz2]; omega) (by omega)
  rw [hr, hz1, Int.toNat_natCast, Nat.mul_one]
  have e : madeCells (Value.int .u8 0).cells n = zeroRowC n := by
    apply Array.toList_inj.1
    show (madeCells #[.int .u8 0] n).toList = _
    rw [toList_madeCells_one]
    simp [zeroRowC, bv]
  rw [e]

theorem bxmade_any (w : World) (b : Nat) (q it sz : Int) (A : Option Addr) (n c : Nat) (hb : w.heap[b]? = some (.cells #[.pointer (some ⟨b, 0, none⟩), .int .i64 q, .int .i64 it, .int .i64 sz, .slice A n c] 51 (0, 0))) :
    Calls Try.prog 34 #[.pointer (some ⟨b, 0, none⟩)] w fun e w' => e = .returned (.bool true) ∧ w' = w := by
  have z0 := cell_of hb 0
  simp only [List.getElem?_toArray, List.getElem?_cons_succ, List.getElem?_cons_zero] at z0
  have ep := fun W => eqlPB ⟨b, 0, none⟩ W
  clear hb
  go_enter Try.func34, Try.ntmps34
  go_wp2
  go_ret
  exact ⟨rfl, rfl⟩
theorem bxitem_any (w : World) (b : Nat) (q it sz : Int) (A : Option Addr) (n c : Nat) (hb : w.heap[b]? = some (.cells #[.pointer (some ⟨b, 0, none⟩), .int .i64 q, .int .i64 it, .int .i64 sz, .slice A n c] 51 (0, 0))) :
    Calls Try.prog 25 #[.pointer (some ⟨b, 0, none⟩)] w fun e w' => e = .returned (.int .i64 it) ∧ w' = w := by
  have MD := Lib.hid (bxmade_any w b q it sz A n c hb)
  have z2 := cell_of hb 2
  simp only [List.getElem?_toArray, List.getElem?_cons_succ, List.getElem?_cons_zero] at z2
  clear hb
  go_enter Try.func25, Try.ntmps25
  go_wp2_with fail
  refine MD.out.mono ?_
  rintro e v ⟨rfl, rfl⟩
  go_wp2
  go_ret
  exact ⟨rfl, rfl⟩
theorem bxused_any (w : World) (b : Nat) (q it sz : Int) (A : Option Addr) (n c : Nat) (hb : w.heap[b]? = some (.cells #[.pointer (some ⟨b, 0, none⟩), .int .i64 q, .int .i64 it, .int .i64 sz, .slice A n c] 51 (0, 0))) :
    Calls Try.prog 26 #[.pointer (some ⟨b, 0, none⟩)] w fun e w' => e = .returned (.int .i64 n) ∧ w' = w := by
  have MD := Lib.hid (bxmade_any w b q it sz A n c hb)
  have z4 := cell_of hb 4
  simp only [List.getElem?_toArray, List.getElem?_cons_succ, List.getElem?_cons_zero] at z4
  clear hb
  go_enter Try.func26, Try.ntmps26
  go_wp2_with fail
  refine MD.out.mono ?_
  rintro e v ⟨rfl, rfl⟩
  go_wp2
  go_ret
  exact ⟨rfl, rfl⟩
theorem bxdrop_any (w : World) (b : Nat) (q it sz : Int) (A : Option Addr) (n c : Nat) (hb : w.heap[b]? = some (.cells #[.pointer (some ⟨b, 0, none⟩), .int .i64 q, .int .i64 it, .int .i64 sz, .slice A n c] 51 (0, 0))) :
    Calls Try.prog 18 #[.pointer (some ⟨b, 0, none⟩)] w fun e w' => e = .returned (.tuple #[]) ∧ w'.heap[b]? = some (.cells #[.pointer (some ⟨b, 0, none⟩), .int .i64 q, .int .i64 0, .int .i64 0, .slice none 0 0] 51 (0, 0)) ∧ Chg [b] w w' := by
  have MD := Lib.hid (bxmade_any w b q it sz A n c hb)
  have z2 := cell_of hb 2
  have z3 := cell_of hb 3
  have z4 := cell_of hb 4
  have f2 := free_of hb 2
  have f3 := free_of hb 3
  have f4 := free_of hb 4
  simp only [List.getElem?_toArray, List.getElem?_cons_succ, List.getElem?_cons_zero] at z2 z3 z4
  have HP := Lib.hid (box_put3 (.int .i64 0) (.int .i64 0) (.slice none 0 0) hb)
  have HC := Lib.hid ((((Chg.refl [b] w).setCell (p := ⟨b, 2, none⟩) (.inl (by simp)) (.int .i64 0)).setCell (p := ⟨b, 3, none⟩) (.inl (by simp)) (.int .i64 0)).setCell (p := ⟨b, 4, none⟩) (.inl (by simp)) (.slice none 0 0))
  clear hb
  go_enter Try.func18, Try.ntmps18
  go_wp2_with fail
  refine MD.out.mono ?_
  rintro e v ⟨rfl, rfl⟩
  go_wp2
  go_end0
  exact ⟨rfl, HP.out, HC.out⟩

set_option maxRecDepth 100000 in
set_option maxHeartbeats 2000000 in
theorem bxbegin_any (w : World) (b : Nat) (q it0 sz0 it : Int) (s : Nat) (A : Option Addr) (n c : Nat) (hs : s ≤ 60000) (hb : w.heap[b]? = some (.cells #[.pointer (some ⟨b, 0, none⟩), .int .i64 q, .int .i64 it0, .int .i64 sz0, .slice A n c] 51 (0, 0))) :
    Calls Try.prog 35 #[.pointer (some ⟨b, 0, none⟩), .int .i64 it, .int .i64 (s : Int)] w fun e w' => e = .returned (.tuple #[]) ∧ ∃ g, w'.heap[b]? = some (.cells #[.pointer (some ⟨b, 0, none⟩), .int .i64 q, .int .i64 it, .int .i64 (s : Int), .slice (some ⟨g, 0, none⟩) 0 s] 51 (0, 0)) ∧ OwnB w' (some ⟨g, 0, none⟩) s [] ∧ w.heap.size ≤ g ∧ Chg [b] w w' := by
  have hmk := run_mkC s (by omega)
  obtain ⟨w1, hw1, c1, b1⟩ := news1 w (.cells (zeroRowC s) 5)
  have B2 := Lib.hid (show w1.drew.heap[b]? = some _ from c1.at_ hb (by simp))
  have hbl := lt_of_heap hb
  have HO := Lib.hid (show OwnB w1.drew (some ⟨w.heap.size, 0, none⟩) s [] from .of (full := List.replicate s 0) b1 (Nat.zero_le _) (by simp only [maxLen]; omega) (by simp) rfl)
  have C1 := Lib.hid (c1.into (T := [b])).drew
  have W1 := Lib.hid hw1
  have i0 : (0 : Int) ≤ (s : Int) := by omega
  have i1 : ¬ (s : Int) < 0 := by omega
  clear hb b1 c1 hw1
  go_enter Try.func35, Try.ntmps35
  go_upto_region 1 with fail
  rw [← W1.out]
  generalize hg : w.heap.size = g at *
  refine wp_region_held_drew (S := fun w' => Chg [b] w1.drew w') (by kernel_rfl) (Chg.refl [b] _) (fun hHeld => ?_)
  generalize w1.drew = w2 at *
  clear W1
  have z2 := cell_of B2.out 2
  have z3 := cell_of B2.out 3
  have z4 := cell_of B2.out 4
  have fz2 := free_of B2.out 2
  have fz3 := free_of B2.out 3
  have fz4 := free_of B2.out 4
  simp only [List.getElem?_toArray, List.getElem?_cons_succ, List.getElem?_cons_zero] at z2 z3 z4
  refine step_yes 0 9 ?_ (by assumption) rfl rfl (by kernel_rfl) (by kernel_rfl) (by kernel_rfl) (fun _ _ _ h => h) (by rfl) ?_ ?_
  rotate_left
  · (intro w hSw; (try dsimp only at hSw); go_simp; try with_reducible rfl)
  try simp only [Act.put, List.setIfInBounds_toArray, List.set_cons_zero, List.set_cons_succ]
  refine step_yes 1 10 ?_ (by assumption) rfl rfl (by kernel_rfl) (by kernel_rfl) (by kernel_rfl) (fun _ _ _ h => h) (by rfl) ?_ ?_
  rotate_left
  · (intro w hSw; (try dsimp only at hSw); go_simp; try with_reducible rfl)
  try simp only [Act.put, List.setIfInBounds_toArray, List.set_cons_zero, List.set_cons_succ]
  refine step_yes 2 11 ?_ (by assumption) rfl rfl (by kernel_rfl) (by kernel_rfl) (by kernel_rfl) (fun _ _ _ h => h) (by rfl) ?_ ?_
  rotate_left
  · (intro w hSw; (try dsimp only at hSw); go_simp; try with_reducible rfl)
  try simp only [Act.put, List.setIfInBounds_toArray, List.set_cons_zero, List.set_cons_succ]
  refine step_yes 3 12 ?_ (by assumption) rfl rfl (by kernel_rfl) (by kernel_rfl) (by kernel_rfl) (fun _ _ _ h => h) (by rfl) ?_ ?_
  rotate_left
  · (intro w hSw; (try dsimp only at hSw); go_simp; try with_reducible rfl)
  try simp only [Act.put, List.setIfInBounds_toArray, List.set_cons_zero, List.set_cons_succ]
  refine step_yes 4 13 ?_ (by assumption) rfl rfl (by kernel_rfl) (by kernel_rfl) (by kernel_rfl) (fun _ _ _ h => h) (by rfl) ?_ ?_
  rotate_left
  · (intro w hSw; (try dsimp only at hSw); go_simp; try with_reducible rfl)
  try simp only [Act.put, List.setIfInBounds_toArray, List.set_cons_zero, List.set_cons_succ]
  refine step_yes 5 14 ?_ (by assumption) rfl rfl (by kernel_rfl) (by kernel_rfl) (by kernel_rfl) (fun _ _ _ h => h) (by rfl) ?_ ?_
  rotate_left
  · (intro w hSw; (try dsimp only at hSw); go_simp; try with_reducible rfl)
  try simp only [Act.put, List.setIfInBounds_toArray, List.set_cons_zero, List.set_cons_succ]
  refine step_yes 6 15 ?_ (by assumption) rfl rfl (by kernel_rfl) (by kernel_rfl) (by kernel_rfl) (fun _ _ _ h => h) (by rfl) ?_ ?_
  rotate_left
  · (intro w hSw; (try dsimp only at hSw); go_simp; try with_reducible rfl)
  try simp only [Act.put, List.setIfInBounds_toArray, List.set_cons_zero, List.set_cons_succ]
  refine step_yes 7 16 ?_ (by assumption) rfl rfl (by kernel_rfl) (by kernel_rfl) (by kernel_rfl) (fun _ _ _ h => h) (by rfl) ?_ ?_
  rotate_left
  · (intro w hSw; (try dsimp only at hSw); go_simp; try with_reducible rfl)
  try simp only [Act.put, List.setIfInBounds_toArray, List.set_cons_zero, List.set_cons_succ]
  refine step_yes 8 17 ?_ (by assumption) rfl rfl (by kernel_rfl) (by kernel_rfl) (by kernel_rfl) (fun _ _ _ h => h) (by rfl) ?_ ?_
  rotate_left
  · (intro w hSw; (try dsimp only at hSw); go_simp; try with_reducible rfl)
  try simp only [Act.put, List.setIfInBounds_toArray, List.set_cons_zero, List.set_cons_succ]
  refine step_yes 9 18 ?_ (by assumption) rfl rfl (by kernel_rfl) (by kernel_rfl) (by kernel_rfl) (fun _ _ _ h => h) (by rfl) ?_ ?_
  rotate_left
  · (intro w hSw; (try dsimp only at hSw); go_simp; try with_reducible rfl)
  try simp only [Act.put, List.setIfInBounds_toArray, List.set_cons_zero, List.set_cons_succ]
  refine wpAnyH_ready (rs := [10]) (by kernel_rfl) (by simp) ?_
  refine AllReadyH.cons rfl (fun K hK => ?_) AllReadyH.nil
  replace hK := Lib.hid hK
  go_simp
  refine hK.out _ _ (hHeld.setCell (p := ⟨b, 2, none⟩) (.inl (by simp)) _) (fun hHeld => ?_)
  clear hK K
  try simp only [Act.put, List.setIfInBounds_toArray, List.set_cons_zero, List.set_cons_succ]
  refine step_yes 11 19 ?_ (by assumption) rfl rfl (by kernel_rfl) (by kernel_rfl) (by kernel_rfl) (fun _ _ _ h => h) (by rfl) ?_ ?_
  rotate_left
  · (intro w hSw; (try dsimp only at hSw); go_simp; try with_reducible rfl)
  try simp only [Act.put, List.setIfInBounds_toArray, List.set_cons_zero, List.set_cons_succ]
  refine step_yes 12 20 ?_ (by assumption) rfl rfl (by kernel_rfl) (by kernel_rfl) (by kernel_rfl) (fun _ _ _ h => h) (by rfl) ?_ ?_
  rotate_left
  · (intro w hSw; (try dsimp only at hSw); go_simp; try with_reducible rfl)
  try simp only [Act.put, List.setIfInBounds_toArray, List.set_cons_zero, List.set_cons_succ]
  refine wpAnyH_ready (rs := [13]) (by kernel_rfl) (by simp) ?_
  refine AllReadyH.cons rfl (fun K hK => ?_) AllReadyH.nil
  replace hK := Lib.hid hK
  go_simp
  refine hK.out _ _ (hHeld.setCell (p := ⟨b, 3, none⟩) (.inl (by simp)) _) (fun hHeld => ?_)
  clear hK K
  try simp only [Act.put, List.setIfInBounds_toArray, List.set_cons_zero, List.set_cons_succ]
  refine step_yes 14 21 ?_ (by assumption) rfl rfl (by kernel_rfl) (by kernel_rfl) (by kernel_rfl) (fun _ _ _ h => h) (by rfl) ?_ ?_
  rotate_left
  · (intro w hSw; (try dsimp only at hSw); go_simp; try with_reducible rfl)
  try simp only [Act.put, List.setIfInBounds_toArray, List.set_cons_zero, List.set_cons_succ]
  refine step_yes 15 22 ?_ (by assumption) rfl rfl (by kernel_rfl) (by kernel_rfl) (by kernel_rfl) (fun _ _ _ h => h) (by rfl) ?_ ?_
  rotate_left
  · (intro w hSw; (try dsimp only at hSw); go_simp; try with_reducible rfl)
  try simp only [Act.put, List.setIfInBounds_toArray, List.set_cons_zero, List.set_cons_succ]
  refine wpAnyH_ready (rs := [16]) (by kernel_rfl) (by simp) ?_
  refine AllReadyH.cons rfl (fun K hK => ?_) AllReadyH.nil
  replace hK := Lib.hid hK
  go_simp
  refine hK.out _ _ (hHeld.setCell (p := ⟨b, 4, none⟩) (.inl (by simp)) _) (fun hHeld => ?_)
  clear hK K
  try simp only [Act.put, List.setIfInBounds_toArray, List.set_cons_zero, List.set_cons_succ]
  refine wpAnyH_done (by kernel_rfl) ?_ _
  have HP := box_put3 (.int .i64 it) (.int .i64 (s : Int)) (.slice (some ⟨g, 0, none⟩) 0 s) B2.out
  have CH := Lib.hid hHeld
  have HPP := Lib.hid HP
  clear HP hHeld
  go_wp2
  go_end0
  exact ⟨rfl, g, HPP.out, HO.out.chg CH.out (by rintro a ha; cases ha; simp; omega), by omega, C1.out.trans CH.out⟩
end Go.Proofs.Ytnpilljjkfjjiaa
