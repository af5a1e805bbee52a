/- print.Mix: the pieces of numbers, eight bytes each. -/
import Derived.Test.YtphchggabcbfkaaDoorRange
import Derived.Test.YtphchggabcbfkaaDoorFmt
import Derived.Test.YtphchggabcbfkaaDoorFnv
namespace Go.Proofs.YtphchggabcbfkaaDoor
open Go.RowKit Go.Shelf
set_option linter.unusedSimpArgs false
set_option linter.unusedVariables false
attribute [local go_sem] Oper.semAt_some

/-- The slice reads as these numbers. -/
structure U64s (w : World) (A : Option Addr) (n : Nat) (us : List Nat) : Prop where
  len : us.length = n
  cells : ∀ (j u : Nat), us[j]? = some u → ∃ a, A = some a ∧ w.cell? (a.add j) = some (.int .u64 (u : Int))
  range : ∀ u ∈ us, u < 18446744073709551616
theorem U64s.line {w : World} {A : Option Addr} {n : Nat} {us : List Nat} (h : U64s w A n us) (h0 : 0 < n) : ∃ g o, A = some ⟨g, o, none⟩ ∧ ∀ j, j < n → w.cell? ⟨g, o + j, none⟩ = some (.int .u64 ((us.getD j 0 : Nat) : Int)) := by
  have hl := h.len
  obtain ⟨a, rfl, hc⟩ := h.cells 0 _ (List.getElem?_eq_getElem (by omega))
  have hsp := World.cell?_spot hc
  obtain ⟨g, o, sp⟩ := a
  have hsp : sp = none := by simpa [Addr.add] using hsp
  subst hsp
  refine ⟨g, o, rfl, fun j hj => ?_⟩
  obtain ⟨a', e, hcj⟩ := h.cells j _ (List.getElem?_eq_getElem (by omega))
  cases e
  rw [add_lit] at hcj
  rw [hcj]
  simp [List.getD_eq_getElem?_getD, List.getElem?_eq_getElem (show j < us.length by omega)]
def byteOf (u i : Nat) : UInt8 := UInt8.ofNat (u / 2 ^ (56 - 8 * i) % 256)
/-- A number's eight bytes, the highest first. -/
def eight (u : Nat) : List UInt8 := (List.range 8).map (byteOf u)
def mixB (us : List Nat) : List UInt8 := us.flatMap eight
/-- The first k of a number's bytes lie in a row of eight. -/
def rowOf (u k : Nat) : List UInt8 := (List.range k).map (byteOf u) ++ List.replicate (8 - k) 0
theorem rowOf_len (u k : Nat) (h : k ≤ 8) : (rowOf u k).length = 8 := by simp [rowOf]; omega
theorem rowOf_set (u k : Nat) (h : k < 8) : (rowOf u k).set k (byteOf u k) = rowOf u (k + 1) := by
  unfold rowOf
  rw [List.set_append_right _ _ (by simp), List.range_succ, List.map_append]
  obtain ⟨m, hm⟩ : ∃ m, 8 - k = m + 1 := ⟨7 - k, by omega⟩
  have : 8 - (k + 1) = m := by omega
  rw [hm, this]
  simp [List.replicate_succ]
/-- The byte as the program makes it. -/
theorem byteOf_int (u i : Nat) : (u : Int) / 2 ^ (56 - 8 * i) % 256 = ((byteOf u i).toNat : Int) := by
  unfold byteOf
  rw [UInt8.toNat_ofNat', show (2 : Nat) ^ 8 = 256 by rfl, Nat.mod_mod]
  simp

set_option maxRecDepth 100000 in
set_option maxHeartbeats 2000000 in
theorem pieces1_gives (n : Nat) (l n₁ Bs g o len cap : Nat) (us : List Nat) (hreach : len * 8 ≤ 140737488351232) (hlen : us.length = len) (hr : ∀ u ∈ us, u < 18446744073709551616)
    (J : List (Nat × List UInt8) → World → Prop) (W : World) (hJ : ∀ pre A B, J pre A → Below W.heap.size A B → J pre B) (hb : Bs < n₁) (hg : g < n₁) (hn₁ : n₁ ≤ W.heap.size)
    (hY : ∀ pre x W1, J pre W1 → (W1.heap[x.1]? = some (.cells (x.2.map bv).toArray 63 (0, 0)) ∧ x.2.length = 8) → YieldAt Fence.wide n Tryd.prog l #[.slice (some ⟨x.1, 0, none⟩) 8 8] W1 fun e W' => e = .returned (.bool true) ∧ J (pre ++ [x]) W' ∧ Below n₁ W1 W')
    (hBs : W.cell? ⟨Bs, 0, none⟩ = some (.slice (some ⟨g, o, none⟩) len cap)) (hc : ∀ j, j < len → W.cell? ⟨g, o + j, none⟩ = some (.int .u64 ((us.getD j 0 : Nat) : Int))) (h0 : J [] W) :
    CallsIn Fence.wide (n + 1) Tryd.prog 38 #[.func (.yield l) #[] #[], .pointer (some ⟨Bs, 0, none⟩)] W fun e W' => (∃ v, e = .returned v) ∧ ∃ xs : List (Nat × List UInt8), xs.map (·.2) = us.map eight ∧ J xs W' := by
  have h1 : 1 ≤ n + 1 := by omega
  have hro : Fence.wide.round = none := rfl
  refine callsIn_of_wp Tryd.func38 rfl trivial ?_ hro
  simp only [Tryd.ntmps38, List.size_toArray, List.length_cons, List.length_nil, Nat.reduceAdd, Nat.reduceSub, Array.replicate_succ, Array.replicate_zero, List.push_toArray, List.append_toArray, List.nil_append, List.cons_append]
  gi_wp2
  gi_loopw [9] (fun i wr => ∃ (k : Nat) (xs : List (Nat × List UInt8)), k ≤ len ∧ i = .int .i64 k ∧ xs.map (·.2) = (us.take k).map eight ∧ J xs wr ∧ W.heap.size ≤ wr.heap.size ∧ Below n₁ W wr)
    (fun i _ => len - (intOf i).toNat)
  case atStart => exact ⟨0, [], Nat.zero_le _, rfl, rfl, h0, Nat.le_refl _, Below.refl _ _⟩
  case round =>
    obtain ⟨k, xs, hk, rfl, hxs, hJs, hsz, hnx⟩ := hrel
    by_cases hlt : k < len
    · have hcx := (hnx.cell (p := ⟨g, o + k, none⟩) hg).trans (hc k hlt)
      obtain ⟨u, hu⟩ : ∃ u, us.getD k 0 = u := ⟨_, rfl⟩
      rw [hu] at hcx
      gi_wp2
      obtain ⟨wo, hwo⟩ : ∃ wo, wo = wr := ⟨_, rfl⟩
      subst hwo
      have hrow0 : (wo.alloc (.cells #[.int .u8 0, .int .u8 0, .int .u8 0, .int .u8 0, .int .u8 0, .int .u8 0, .int .u8 0, .int .u8 0] 63)).heap[wo.heap.size]? = some (.cells ((rowOf u 0).map bv).toArray 63 (0, 0)) := heap_alloc_new wo _
      have hbel0 := (Below.refl wo.heap.size wo).alloc (Nat.le_refl _) (.cells #[.int .u8 0, .int .u8 0, .int .u8 0, .int .u8 0, .int .u8 0, .int .u8 0, .int .u8 0, .int .u8 0] 63)
      obtain ⟨s, hs⟩ : ∃ s, s = wo.heap.size := ⟨_, rfl⟩
      rw [← hs] at hrow0 hbel0 ⊢
      have HS := Lib.hid hs
      clear hs
      gi_loopw [13] (fun i wi => ∃ j : Nat, j ≤ 8 ∧ i = .int .i64 j ∧ wi.heap[s]? = some (.cells ((rowOf u j).map bv).toArray 63 (0, 0)) ∧ Below s wo wi)
        (fun i _ => 8 - (intOf i).toNat)
      case atStart => exact ⟨0, by omega, rfl, hrow0, hbel0⟩
      case round =>
        obtain ⟨j, hj, rfl, hrow, hbel⟩ := hrel
        by_cases hj8 : j < 8
        · have hz : wr.cell? ⟨s, j, none⟩ = some (.int .u8 (((rowOf u j).getD j 0).toNat : Int)) := by
            rw [cell_of hrow]
            have : j < (rowOf u j).length := by rw [rowOf_len u j hj]; exact hj8
            simp [List.getElem?_eq_getElem this, List.getD_eq_getElem?_getD, bv]
          have hf := free_of hrow j
          have HRow := Lib.hid hrow
          clear hrow
          gi_wp2
          rw [byteOf_int]
          refine ⟨⟨j + 1, by omega, by go_num, ?_, hbel.setCell (p := ⟨s, j, none⟩) (Nat.le_refl _) _⟩, by simp [intOf]; omega⟩
          rw [← rowOf_set u j hj8]
          exact row_put wr s j _ _ _ HRow.out
        · obtain rfl : j = 8 := by omega
          have hJ8 := hJ xs wo wr hJs ⟨hbel.os, hbel.tape, hbel.output, hbel.size, fun i hi => hbel.block i (by have := HS.out; omega)⟩
          have hrow8 : wr.heap[s]? = some (.cells ((eight u).map bv).toArray 63 (0, 0)) := by
            have : rowOf u 8 = eight u := by simp [rowOf, eight]
            rw [← this]; exact hrow
          obtain ⟨fn, tmps, assign, body, hy, hR⟩ := hY xs (s, eight u) wr hJ8 ⟨hrow8, by simp [eight]⟩
          dsimp only at hy
          gi_wp2
          refine hR.mono ?_
          rintro e W3 ⟨rfl, hJ3, hk3⟩
          gi_wp2
          go_roundw
          case rel =>
            have b1 : Below n₁ W W3 := (hnx.trans ⟨hbel.os, hbel.tape, hbel.output, hbel.size, fun i hi => hbel.block i (by have := HS.out; omega)⟩).trans hk3
            refine ⟨k + 1, xs ++ [(s, eight u)], by omega, by simp, ?_, hJ3, ?_, b1⟩
            · have : us.take (k + 1) = us.take k ++ [u] := by
                rw [List.take_succ_eq_append_getElem (by omega)]
                rw [← hu]
                simp [List.getD_eq_getElem?_getD, List.getElem?_eq_getElem (show k < us.length by omega)]
              rw [this]
              simp [hxs]
            · have := b1.size
              have := hbel.size
              omega
          case measure => simp [intOf]; omega
    · obtain rfl : k = len := by omega
      gi_wp2
      go_end0
      exact ⟨⟨_, rfl⟩, xs, by rw [hxs, ← hlen, List.take_length], hJs⟩
set_option maxRecDepth 100000 in
set_option maxHeartbeats 1000000 in
/-- No numbers: no round. -/
theorem pieces1_none (n : Nat) (l Bs : Nat) (A : Option Addr) (cap : Nat) (J : List (Nat × List UInt8) → World → Prop) (W : World) (hBs : W.cell? ⟨Bs, 0, none⟩ = some (.slice A 0 cap)) (h0 : J [] W) :
    CallsIn Fence.wide (n + 1) Tryd.prog 38 #[.func (.yield l) #[] #[], .pointer (some ⟨Bs, 0, none⟩)] W fun e W' => (∃ v, e = .returned v) ∧ ∃ xs : List (Nat × List UInt8), xs.map (·.2) = ([] : List Nat).map eight ∧ J xs W' := by
  have hro : Fence.wide.round = none := rfl
  refine callsIn_of_wp Tryd.func38 rfl trivial ?_ hro
  simp only [Tryd.ntmps38, List.size_toArray, List.length_cons, List.length_nil, Nat.reduceAdd, Nat.reduceSub, Array.replicate_succ, Array.replicate_zero, List.push_toArray, List.append_toArray, List.nil_append, List.cons_append]
  gi_wp2
  gi_loopw [9] (fun i wr => i = .int .i64 0 ∧ J [] wr) (fun _ _ => 0)
  case atStart => exact ⟨rfl, h0⟩
  case round =>
    obtain ⟨rfl, hJs⟩ := hrel
    gi_wp2
    go_end0
    exact ⟨⟨_, rfl⟩, [], rfl, hJs⟩
set_option maxHeartbeats 400000 in
theorem pieces_any (w : World) (A : Option Addr) (n c : Nat) : Calls Tryd.prog 28 #[.slice A n c] w fun e w' => e = .returned (.func (.func 38) #[] #[.pointer (some ⟨w.heap.size, 0, none⟩)]) ∧ w' = w.alloc (.cells #[.slice A n c] 24) := by
  go_enter Tryd.func28, Tryd.ntmps28
  go_wp2
  go_ret
  exact ⟨rfl, rfl⟩
theorem U64s.chg {S : List Nat} {w w' : World} {A : Option Addr} {n : Nat} {us : List Nat} (h : U64s w A n us) (hc : Chg S w w') (hn : ∀ a, A = some a → a.block ∉ S) : U64s w' A n us :=
  ⟨h.len, fun j u hj => by
    obtain ⟨a, ha, hcell⟩ := h.cells j u hj
    exact ⟨a, ha, hc.cell hcell (by rw [block_add]; exact hn a ha)⟩, h.range⟩
set_option maxRecDepth 100000 in
set_option maxHeartbeats 2000000 in
theorem foldB_pieces (w : World) (bx s0 : Nat) (hs0 : s0 < 18446744073709551616) (A : Option Addr) (n c : Nat) (us : List Nat) (h : U64s w A n us) (hn : n * 8 ≤ 140737488351232) (hbx : w.cell? ⟨bx, 0, none⟩ = some (.slice A n c)) :
    Calls Tryd.prog 27 #[.func (.func 38) #[] #[.pointer (some ⟨bx, 0, none⟩)], .int .u64 (s0 : Int), .func (.func 26) #[] #[]] w fun e w' => e = .returned (.int .u64 (fnv s0 (mixB us) : Int)) ∧ Below w.heap.size w w' := by
  have hblt := lt_of_cell hbx
  have h1 : 1 ≤ 4 := by omega
  have hro : Fence.wide.round = none := rfl
  refine (callsIn_wide (n := 4)).1 ?_
  refine callsIn_of_wp_marks Tryd.func27 rfl trivial ?_ hro
  simp only [Tryd.ntmps27, List.size_toArray, List.length_cons, List.length_nil, Nat.reduceAdd, Nat.reduceSub, Array.replicate_succ, Array.replicate_zero, List.push_toArray, List.append_toArray, List.nil_append, List.cons_append]
  gi_wp2
  obtain ⟨V, hV, hcV, h4, h5⟩ := news2 w (.cells #[.int .u64 (s0 : Int)] 44) (.cells #[.func (.func 26) #[] #[]] 50)
  rw [← hV]
  have hsV : V.heap.size = w.heap.size + 2 := by rw [hV]; simp
  have bV : Below w.heap.size w V := by rw [hV]; exact ((Below.refl _ w).alloc (Nat.le_refl _) _).alloc (by simp) _
  refine range_all (gf := 38) (lb := #[.pointer (some ⟨bx, 0, none⟩)]) rfl (enters_of Tryd.func38 (by kernel_rfl) rfl) (encs := fun x : Nat × List UInt8 => #[.slice (some ⟨x.1, 0, none⟩) 8 8]) (n₁ := w.heap.size) (by omega)
    (S := fun xs => xs.map (·.2) = us.map eight) (Ex := fun _ x W => W.heap[x.1]? = some (.cells (x.2.map bv).toArray 63 (0, 0)) ∧ x.2.length = 8) ?seq (fun _ => rfl)
    (fun pre W => (W.heap[w.heap.size]? = some (.cells #[.int .u64 (fnv s0 (pre.flatMap (·.2)) : Int)] 44 (0, 0)) ∧ W.heap[w.heap.size + 1]? = some (.cells #[.func (.func 26) #[] #[]] 50 (0, 0))) ∧ Below w.heap.size w W)
    ?keep ⟨⟨h4, h5⟩, bV⟩ ?elem
    (fun x => { tmps := #[.func (.func 38) #[] #[.pointer (some ⟨bx, 0, none⟩)], .int .u64 (s0 : Int), .func (.func 26) #[] #[], undef, .pointer (some ⟨w.heap.size, 0, none⟩), .pointer (some ⟨w.heap.size + 1, 0, none⟩), .int .u64 0, .slice (some ⟨x.1, 0, none⟩) 8 8, .func (.func 38) #[] #[.pointer (some ⟨bx, 0, none⟩)], .slice (some ⟨x.1, 0, none⟩) 8 8, undef, undef, undef, undef, undef], defers := [] }) ?assign ?body ?done
  case seq =>
    intro l J W hW hJ hY h0
    have hB : W.cell? ⟨bx, 0, none⟩ = some (.slice A n c) := (hW.cell (p := ⟨bx, 0, none⟩) (show bx < V.heap.size by omega)).trans ((bV.cell (p := ⟨bx, 0, none⟩) hblt).trans hbx)
    by_cases hz : n = 0
    · subst hz
      have hu := h.len
      obtain rfl : us = [] := List.eq_nil_of_length_eq_zero hu
      exact pieces1_none 2 l bx A c J W hB h0
    · obtain ⟨g, o, rfl, hcs⟩ := h.line (by omega)
      have hg : g < w.heap.size := by
        have := lt_of_cell (hcs 0 (by omega))
        simpa using this
      have hcs' : ∀ j, j < n → W.cell? ⟨g, o + j, none⟩ = some (.int .u64 ((us.getD j 0 : Nat) : Int)) := fun j hj =>
        (hW.cell (p := ⟨g, o + j, none⟩) (show g < V.heap.size by omega)).trans ((bV.cell (p := ⟨g, o + j, none⟩) hg).trans (hcs j hj))
      have hs2 := hW.size
      exact pieces1_gives 2 l w.heap.size bx g o n c us hn h.len h.range J W hJ hblt hg (by omega) hY hB hcs' h0
  case keep =>
    rintro pre A' B' ⟨⟨e4, e5⟩, b⟩ hb
    exact ⟨⟨(hb.block _ (by omega)).trans e4, (hb.block _ (by omega)).trans e5⟩, b.trans ⟨hb.os, hb.tape, hb.output, hb.size, fun k hk => hb.block k (by omega)⟩⟩
  case elem =>
    rintro pre x W l o o' hl ho ⟨hx, hx8⟩
    refine ⟨(World.putObj_heap_other ?_).trans hx, hx8⟩
    rintro rfl
    rw [hx] at hl
    cases hl
    simp [Obj.isCells] at ho
  case assign =>
    intro l x W K hK
    gi_wp2
    exact hK
  case body =>
    rintro l pre x W ⟨⟨e4, e5⟩, b⟩ ⟨hx, hx8⟩
    have c4 := cell_of e4 0
    have f4 := free_of e4 0
    have c5 := cell_of e5 0
    simp at c4 c5
    have hxB : Bs W (some ⟨x.1, 0, none⟩) 8 x.2 := by
      have := Bs.rowAt (m := 0) hx
      rw [hx8] at this
      simpa using this
    have hlt := fnv_lt s0 (pre.flatMap (·.2)) hs0
    have hstep : fnv s0 (pre.flatMap (fun x => x.2) ++ x.2) = fnv (fnv s0 (pre.flatMap (·.2))) x.2 := by simp [fnv]
    gi_wp2_with (refine ⟨trivial, ?_⟩; gi_at_call 26; refine (CallsIn.inRound l (callsIn_wide.2 (through_any _ _ hlt _ 8 8 x.2 hxB (by omega)))).mono ?_; rintro e w1 ⟨rfl, rfl⟩)
    refine ⟨KeepsOthers.setCell _ _ _, (Below.refl w.heap.size W).setCell (p := ⟨w.heap.size, 0, none⟩) (Nat.le_refl _) _, ⟨?_, ?_⟩, b.setCell (p := ⟨w.heap.size, 0, none⟩) (Nat.le_refl _) _⟩
    · rw [heap_setCell_same _ _ _ _ _ _ e4]
      simp
    · rw [heap_setCell_other W ⟨w.heap.size, 0, none⟩ (w.heap.size + 1) _ (by simp)]
      exact e5
  case done =>
    rintro D ys W hD hS ⟨⟨e4, _⟩, hB⟩ hK
    have c4 := cell_of e4 0
    simp at c4
    gi_wp2
    refine ⟨by simp, .inl ⟨_, _, rfl, run_takeDeferred hK, ?_⟩⟩
    refine ⟨_, results_tmp rfl _ _ _, ?_, hB.trans (belowK_b (w := w) (Nat.le_refl _) W D _ _ (by omega) hK rfl rfl)⟩
    have : ys.flatMap (·.2) = mixB us := by
      unfold mixB
      rw [List.flatMap_def, hS, ← List.flatMap_def]
    rw [this]
    rfl
set_option maxHeartbeats 400000 in
theorem mix_any (w : World) (A : Option Addr) (n c : Nat) (us : List Nat) (h : U64s w A n us) (hn : n * 8 ≤ 140737488351232) :
    Calls Tryd.prog 17 #[.slice A n c] w fun e w' => e = .returned (.int .u64 (fnvS (mixB us) : Int)) ∧ Below w.heap.size w w' := by
  obtain ⟨V, hV, hcV, hb⟩ := news1 w (.cells #[.slice A n c] 24)
  have hsV : V.heap.size = w.heap.size + 1 := by rw [hV]; simp
  have bV : Below w.heap.size w V := by rw [hV]; exact (Below.refl _ w).alloc (Nat.le_refl _) _
  have hF := foldB_pieces V w.heap.size fnv0 (by decide) A n c us (h.chg hcV (by simp)) hn (by rw [cell_of hb]; rfl)
  have HF := Lib.hid hF
  have HV := Lib.hid hV
  have HB := Lib.hid bV
  have HS := Lib.hid hsV
  clear h hV hcV hb hF bV hsV
  go_enter Tryd.func17, Tryd.ntmps17
  go_wp2_with (first
    | (go_at_call 28; refine (pieces_any _ _ _ _).mono ?_; rintro e w1 ⟨rfl, hw1⟩; rw [← HV.out] at hw1; subst hw1)
    | (go_at_call 27; refine HF.out.mono ?_; rintro e w2 ⟨rfl, hb2⟩))
  go_ret
  exact ⟨rfl, HB.out.trans ⟨hb2.os, hb2.tape, hb2.output, hb2.size, fun k hk => hb2.block k (by have := HS.out; omega)⟩⟩
end Go.Proofs.YtphchggabcbfkaaDoor
