/- strconv.FormatUint at the base 16, strings.Repeat of '0', print.Text. print.Mix: the pieces of numbers, eight bytes each. The document's Of. Package dot: Sort: a copy, the library's sort, what is told twice left out. slices.Clone, slices.Compact over dots; dot.Sort. dot.Sort: each dot once, in order. What is told once, in order: there is one such list. The document's Sort: one by one, each put where it belongs: no memory here. The program's Of. store.Shelf, Near, Missing, Known. store.Print. -/
import Derived.Test.YtomgjogkkoigbaaGreatDoorZsta
import Derived.Test.YtomgjogkkoigbaaGreatDoorZstz
import Derived.Test.YtomgjogkkoigbaaGreatDoorZstb
import Derived.Test.YtomgjogkkoigbaaGreatDoorZstl
import Derived.Test.YtomgjogkkoigbaaGreatDoorZstm
import Derived.Deep.Cut
import Derived.Deep.RegionHeld3
import Derived.Test.YtomgjogkkoigbaaGreatDoorShelf5
import Derived.Test.YtomgjogkkoigbaaGreatDoorZstn
import Derived.Test.YtomgjogkkoigbaaGreatDoorZstj
import Derived.Test.YtomgjogkkoigbaaGreatDoorZstv
import Derived.Test.YtomgjogkkoigbaaGreatDoorZsts
import Derived.RangeFuncCalls
set_option linter.unusedSimpArgs false
set_option linter.unusedVariables false
namespace Go.Proofs.YtomgjogkkoigbaaGreatDoor
section
open Go.RowKit

theorem row_put (wr : World) (s m : Nat) (c : UInt8) (full : List UInt8) (t : TypeId) (h : wr.heap[s]? = some (.cells (full.map bv).toArray t (0, 0))) :
  (wr.setCell ⟨s, m, none⟩ (.int .u8 (c.toNat : Int))).heap[s]? = some (.cells ((full.set m c).map bv).toArray t (0, 0)) := by
 rw [heap_setCell_same wr s m _ _ _ h]
 simp [bv, List.map_set]
theorem Bs.rowAt {w : World} {s m : Nat} {full : List UInt8} {t : TypeId} {fr : Nat × Nat} (h : w.heap[s]? = some (.cells (full.map bv).toArray t fr)) : Bs w (some ⟨s, m, none⟩) (full.length - m) (full.drop m) := by
 refine ⟨by simp, fun j c hj => ⟨_, rfl, ?_⟩⟩
 rw [List.getElem?_drop] at hj
 have e : (⟨s, m, none⟩ : Addr).add j = ⟨s, m + j, none⟩ := by cases j <;> simp [Addr.add]
 rw [e, cell_of h]
 simp [hj]
end
section
open Go.RowKit Go.Shelf
attribute [local go_sem] Oper.semAt_some

structure U64s (w : World) (A : Option Addr) (n : Nat) (us : List Nat) : Prop where
 len : us.length = n
 cells : ∀ (j u : Nat), us[j]? = some u → ∃ a, A = some a ∧ w.cell? (a.add j) = some (.int .u64 (u : Int))
 range : ∀ u ∈ us, u < 18446744073709551616
theorem U64s.line {w : World} {A : Option Addr} {n : Nat} {us : List Nat} (h : U64s w A n us) (h0 : 0 < n) : ∃ g o, A = some ⟨g, o, none⟩ ∧ ∀ j, j < n → w.cell? ⟨g, o + j, none⟩ = some (.int .u64 ((us.getD j 0 : Nat) : Int)) := by
 have hl := h.len
 obtain ⟨a, rfl, hc⟩ := h.cells 0 _ (List.getElem?_eq_getElem (by omega))
 have hsp := World.cell?_spot hc
 obtain ⟨g, o, sp⟩ := a
 have hsp : sp = none := by simpa [Addr.add] using hsp
 subst hsp
 refine ⟨g, o, rfl, fun j hj => ?_⟩
 obtain ⟨a', e, hcj⟩ := h.cells j _ (List.getElem?_eq_getElem (by omega))
 cases e
 rw [add_lit] at hcj
 rw [hcj]
 simp [List.getD_eq_getElem?_getD, List.getElem?_eq_getElem (show j < us.length by omega)]
def byteOf (u i : Nat) : UInt8 := UInt8.ofNat (u / 2 ^ (56 - 8 * i) % 256)
def eight (u : Nat) : List UInt8 := (List.range 8).map (byteOf u)
def mixB (us : List Nat) : List UInt8 := us.flatMap eight
def rowOf (u k : Nat) : List UInt8 := (List.range k).map (byteOf u) ++ List.replicate (8 - k) 0
theorem rowOf_len (u k : Nat) (h : k ≤ 8) : (rowOf u k).length = 8 := by simp [rowOf]; omega
theorem rowOf_set (u k : Nat) (h : k < 8) : (rowOf u k).set k (byteOf u k) = rowOf u (k + 1) := by
 unfold rowOf
 rw [List.set_append_right _ _ (by simp), List.range_succ, List.map_append]
 obtain ⟨m, hm⟩ : ∃ m, 8 - k = m + 1 := ⟨7 - k, by omega⟩
 have : 8 - (k + 1) = m := by omega
 rw [hm, this]
 simp [List.replicate_succ]
theorem byteOf_int (u i : Nat) : (u : Int) / 2 ^ (56 - 8 * i) % 256 = ((byteOf u i).toNat : Int) := by
 unfold byteOf
 rw [UInt8.toNat_ofNat', show (2 : Nat) ^ 8 = 256 by rfl, Nat.mod_mod]
 simp

set_option maxRecDepth 100000 in
set_option maxHeartbeats 2000000 in
theorem pieces1_gives (n : Nat) (l n₁ Bs g o len cap : Nat) (us : List Nat) (hreach : len * 8 ≤ 140737488351232) (hlen : us.length = len) (hr : ∀ u ∈ us, u < 18446744073709551616)
  (J : List (Nat × List UInt8) → World → Prop) (W : World) (hJ : ∀ pre A B, J pre A → Below W.heap.size A B → J pre B) (hb : Bs < n₁) (hg : g < n₁) (hn₁ : n₁ ≤ W.heap.size)
  (hY : ∀ pre x W1, J pre W1 → (W1.heap[x.1]? = some (.cells (x.2.map bv).toArray 184 (0, 0)) ∧ x.2.length = 8) → YieldAt Fence.wide n Tryz.prog l #[.slice (some ⟨x.1, 0, none⟩) 8 8] W1 fun e W' => e = .returned (.bool true) ∧ J (pre ++ [x]) W' ∧ Below n₁ W1 W')
  (hBs : W.cell? ⟨Bs, 0, none⟩ = some (.slice (some ⟨g, o, none⟩) len cap)) (hc : ∀ j, j < len → W.cell? ⟨g, o + j, none⟩ = some (.int .u64 ((us.getD j 0 : Nat) : Int))) (h0 : J [] W) :
  CallsIn Fence.wide (n + 1) Tryz.prog 192 #[.func (.yield l) #[] #[], .pointer (some ⟨Bs, 0, none⟩)] W fun e W' => (∃ v, e = .returned v) ∧ ∃ xs : List (Nat × List UInt8), xs.map (·.2) = us.map eight ∧ J xs W' := by
 have h1 : 1 ≤ n + 1 := by omega
 have hro : Fence.wide.round = none := rfl
 refine callsIn_of_wp Tryz.func192 rfl trivial ?_ hro
 simp only [Tryz.ntmps192, List.size_toArray, List.length_cons, List.length_nil, Nat.reduceAdd, Nat.reduceSub, Array.replicate_succ, Array.replicate_zero, List.push_toArray, List.append_toArray, List.nil_append, List.cons_append]
 gi_wp2
 gi_loopw [9] (fun i wr => ∃ (k : Nat) (xs : List (Nat × List UInt8)), k ≤ len ∧ i = .int .i64 k ∧ xs.map (·.2) = (us.take k).map eight ∧ J xs wr ∧ W.heap.size ≤ wr.heap.size ∧ Below n₁ W wr)
  (fun i _ => len - (intOf i).toNat)
 case atStart => exact ⟨0, [], Nat.zero_le _, rfl, rfl, h0, Nat.le_refl _, Below.refl _ _⟩
 case round =>
  obtain ⟨k, xs, hk, rfl, hxs, hJs, hsz, hnx⟩ := hrel
  by_cases hlt : k < len
  ·
   have hcx := (hnx.cell (p := ⟨g, o + k, none⟩) hg).trans (hc k hlt)
   obtain ⟨u, hu⟩ : ∃ u, us.getD k 0 = u := ⟨_, rfl⟩
   rw [hu] at hcx
   gi_wp2
   obtain ⟨wo, hwo⟩ : ∃ wo, wo = wr := ⟨_, rfl⟩
   subst hwo
   have hrow0 : (wo.alloc (.cells #[.int .u8 0, .int .u8 0, .int .u8 0, .int .u8 0, .int .u8 0, .int .u8 0, .int .u8 0, .int .u8 0] 184)).heap[wo.heap.size]? = some (.cells ((rowOf u 0).map bv).toArray 184 (0, 0)) := heap_alloc_new wo _
   have hbel0 := (Below.refl wo.heap.size wo).alloc (Nat.le_refl _) (.cells #[.int .u8 0, .int .u8 0, .int .u8 0, .int .u8 0, .int .u8 0, .int .u8 0, .int .u8 0, .int .u8 0] 184)
   obtain ⟨s, hs⟩ : ∃ s, s = wo.heap.size := ⟨_, rfl⟩
   rw [← hs] at hrow0 hbel0 ⊢
   have HS := Lib.hid hs
   clear hs
   gi_loopw [13] (fun i wi => ∃ j : Nat, j ≤ 8 ∧ i = .int .i64 j ∧ wi.heap[s]? = some (.cells ((rowOf u j).map bv).toArray 184 (0, 0)) ∧ Below s wo wi)
    (fun i _ => 8 - (intOf i).toNat)
   case atStart => exact ⟨0, by omega, rfl, hrow0, hbel0⟩
   case round =>
    obtain ⟨j, hj, rfl, hrow, hbel⟩ := hrel
    by_cases hj8 : j < 8
    ·
     have hz : wr.cell? ⟨s, j, none⟩ = some (.int .u8 (((rowOf u j).getD j 0).toNat : Int)) := by
      rw [cell_of hrow]
      have : j < (rowOf u j).length := by rw [rowOf_len u j hj]; exact hj8
      simp [List.getElem?_eq_getElem this, List.getD_eq_getElem?_getD, bv]
     have hf := free_of hrow j
     have HRow := Lib.hid hrow
     clear hrow
     gi_wp2
     rw [byteOf_int]
     refine ⟨⟨j + 1, by omega, by go_num, ?_, hbel.setCell (p := ⟨s, j, none⟩) (Nat.le_refl _) _⟩, by simp [intOf]; omega⟩
     rw [← rowOf_set u j hj8]
     exact row_put wr s j _ _ _ HRow.out
    ·
     obtain rfl : j = 8 := by omega
     have hJ8 := hJ xs wo wr hJs ⟨hbel.os, hbel.tape, hbel.output, hbel.size, fun i hi => hbel.block i (by have := HS.out; omega)⟩
     have hrow8 : wr.heap[s]? = some (.cells ((eight u).map bv).toArray 184 (0, 0)) := by
      have : rowOf u 8 = eight u := by simp [rowOf, eight]
      rw [← this]; exact hrow
     obtain ⟨fn, tmps, assign, body, hy, hR⟩ := hY xs (s, eight u) wr hJ8 ⟨hrow8, by simp [eight]⟩
     dsimp only at hy
     gi_wp2
     refine hR.mono ?_
     rintro e W3 ⟨rfl, hJ3, hk3⟩
     gi_wp2
     go_roundw
     case rel =>
      have b1 : Below n₁ W W3 := (hnx.trans ⟨hbel.os, hbel.tape, hbel.output, hbel.size, fun i hi => hbel.block i (by have := HS.out; omega)⟩).trans hk3
      refine ⟨k + 1, xs ++ [(s, eight u)], by omega, by simp, ?_, hJ3, ?_, b1⟩
      ·
       have : us.take (k + 1) = us.take k ++ [u] := by
        rw [List.take_succ_eq_append_getElem (by omega)]
        rw [← hu]
        simp [List.getD_eq_getElem?_getD, List.getElem?_eq_getElem (show k < us.length by omega)]
       rw [this]
       simp [hxs]
      ·
       have := b1.size
       have := hbel.size
       omega
     case measure => simp [intOf]; omega
  ·
   obtain rfl : k = len := by omega
   gi_wp2
   go_end0
   exact ⟨⟨_, rfl⟩, xs, by rw [hxs, ← hlen, List.take_length], hJs⟩
set_option maxRecDepth 100000 in
set_option maxHeartbeats 1000000 in
theorem pieces1_none (n : Nat) (l Bs : Nat) (A : Option Addr) (cap : Nat) (J : List (Nat × List UInt8) → World → Prop) (W : World) (hBs : W.cell? ⟨Bs, 0, none⟩ = some (.slice A 0 cap)) (h0 : J [] W) :
  CallsIn Fence.wide (n + 1) Tryz.prog 192 #[.func (.yield l) #[] #[], .pointer (some ⟨Bs, 0, none⟩)] W fun e W' => (∃ v, e = .returned v) ∧ ∃ xs : List (Nat × List UInt8), xs.map (·.2) = ([] : List Nat).map eight ∧ J xs W' := by
 have hro : Fence.wide.round = none := rfl
 refine callsIn_of_wp Tryz.func192 rfl trivial ?_ hro
 simp only [Tryz.ntmps192, List.size_toArray, List.length_cons, List.length_nil, Nat.reduceAdd, Nat.reduceSub, Array.replicate_succ, Array.replicate_zero, List.push_toArray, List.append_toArray, List.nil_append, List.cons_append]
 gi_wp2
 gi_loopw [9] (fun i wr => i = .int .i64 0 ∧ J [] wr) (fun _ _ => 0)
 case atStart => exact ⟨rfl, h0⟩
 case round =>
  obtain ⟨rfl, hJs⟩ := hrel
  gi_wp2
  go_end0
  exact ⟨⟨_, rfl⟩, [], rfl, hJs⟩
set_option maxHeartbeats 400000 in
theorem pieces_any (w : World) (A : Option Addr) (n c : Nat) : Calls Tryz.prog 140 #[.slice A n c] w fun e w' => e = .returned (.func (.func 192) #[] #[.pointer (some ⟨w.heap.size, 0, none⟩)]) ∧ w' = w.alloc (.cells #[.slice A n c] 89) := by
 go_enter Tryz.func140, Tryz.ntmps140
 go_wp2; go_ret
 exact ⟨rfl, rfl⟩
theorem U64s.chg {S : List Nat} {w w' : World} {A : Option Addr} {n : Nat} {us : List Nat} (h : U64s w A n us) (hc : Chg S w w') (hn : ∀ a, A = some a → a.block ∉ S) : U64s w' A n us :=
 ⟨h.len, fun j u hj => by
  obtain ⟨a, ha, hcell⟩ := h.cells j u hj
  exact ⟨a, ha, hc.cell hcell (by rw [block_add]; exact hn a ha)⟩, h.range⟩
set_option maxRecDepth 100000 in
set_option maxHeartbeats 2000000 in
theorem foldB_pieces (w : World) (bx s0 : Nat) (hs0 : s0 < 18446744073709551616) (A : Option Addr) (n c : Nat) (us : List Nat) (h : U64s w A n us) (hn : n * 8 ≤ 140737488351232) (hbx : w.cell? ⟨bx, 0, none⟩ = some (.slice A n c)) :
  Calls Tryz.prog 139 #[.func (.func 192) #[] #[.pointer (some ⟨bx, 0, none⟩)], .int .u64 (s0 : Int), .func (.func 141) #[] #[]] w fun e w' => e = .returned (.int .u64 (fnv s0 (mixB us) : Int)) ∧ Below w.heap.size w w' := by
 have hblt := lt_of_cell hbx
 have h1 : 1 ≤ 4 := by omega
 have hro : Fence.wide.round = none := rfl
 refine (callsIn_wide (n := 4)).1 ?_
 refine callsIn_of_wp_marks Tryz.func139 rfl trivial ?_ hro
 simp only [Tryz.ntmps139, List.size_toArray, List.length_cons, List.length_nil, Nat.reduceAdd, Nat.reduceSub, Array.replicate_succ, Array.replicate_zero, List.push_toArray, List.append_toArray, List.nil_append, List.cons_append]
 gi_wp2
 obtain ⟨V, hV, hcV, h4, h5⟩ := news2 w (.cells #[.int .u64 (s0 : Int)] 142) (.cells #[.func (.func 141) #[] #[]] 147)
 rw [← hV]
 have hsV : V.heap.size = w.heap.size + 2 := by rw [hV]; simp
 have bV : Below w.heap.size w V := by rw [hV]; exact ((Below.refl _ w).alloc (Nat.le_refl _) _).alloc (by simp) _
 refine range_all (gf := 192) (lb := #[.pointer (some ⟨bx, 0, none⟩)]) rfl (enters_of Tryz.func192 (by kernel_rfl) rfl) (encs := fun x : Nat × List UInt8 => #[.slice (some ⟨x.1, 0, none⟩) 8 8]) (n₁ := w.heap.size) (by omega)
  (S := fun xs => xs.map (·.2) = us.map eight) (Ex := fun _ x W => W.heap[x.1]? = some (.cells (x.2.map bv).toArray 184 (0, 0)) ∧ x.2.length = 8) ?seq (fun _ => rfl)
  (fun pre W => (W.heap[w.heap.size]? = some (.cells #[.int .u64 (fnv s0 (pre.flatMap (·.2)) : Int)] 142 (0, 0)) ∧ W.heap[w.heap.size + 1]? = some (.cells #[.func (.func 141) #[] #[]] 147 (0, 0))) ∧ Below w.heap.size w W)
  ?keep ⟨⟨h4, h5⟩, bV⟩ ?elem
  (fun x => { tmps := #[.func (.func 192) #[] #[.pointer (some ⟨bx, 0, none⟩)], .int .u64 (s0 : Int), .func (.func 141) #[] #[], undef, .pointer (some ⟨w.heap.size, 0, none⟩), .pointer (some ⟨w.heap.size + 1, 0, none⟩), .int .u64 0, .slice (some ⟨x.1, 0, none⟩) 8 8, .func (.func 192) #[] #[.pointer (some ⟨bx, 0, none⟩)], .slice (some ⟨x.1, 0, none⟩) 8 8, undef, undef, undef, undef, undef], defers := [] }) ?assign ?body ?done
 case seq =>
  intro l J W hW hJ hY h0
  have hB : W.cell? ⟨bx, 0, none⟩ = some (.slice A n c) := (hW.cell (p := ⟨bx, 0, none⟩) (show bx < V.heap.size by omega)).trans ((bV.cell (p := ⟨bx, 0, none⟩) hblt).trans hbx)
  by_cases hz : n = 0
  ·
   subst hz
   have hu := h.len
   obtain rfl : us = [] := List.eq_nil_of_length_eq_zero hu
   exact pieces1_none 2 l bx A c J W hB h0
  ·
   obtain ⟨g, o, rfl, hcs⟩ := h.line (by omega)
   have hg : g < w.heap.size := by
    have := lt_of_cell (hcs 0 (by omega))
    simpa using this
   have hcs' : ∀ j, j < n → W.cell? ⟨g, o + j, none⟩ = some (.int .u64 ((us.getD j 0 : Nat) : Int)) := fun j hj =>
    (hW.cell (p := ⟨g, o + j, none⟩) (show g < V.heap.size by omega)).trans ((bV.cell (p := ⟨g, o + j, none⟩) hg).trans (hcs j hj))
   have hs2 := hW.size
   exact pieces1_gives 2 l w.heap.size bx g o n c us hn h.len h.range J W hJ hblt hg (by omega) hY hB hcs' h0
 case keep =>
  rintro pre A' B' ⟨⟨e4, e5⟩, b⟩ hb
  exact ⟨⟨(hb.block _ (by omega)).trans e4, (hb.block _ (by omega)).trans e5⟩, b.trans ⟨hb.os, hb.tape, hb.output, hb.size, fun k hk => hb.block k (by omega)⟩⟩
 case elem =>
  rintro pre x W l o o' hl ho ⟨hx, hx8⟩
  refine ⟨(World.putObj_heap_other ?_).trans hx, hx8⟩
  rintro rfl
  rw [hx] at hl
  cases hl
  simp [Obj.isCells] at ho
 case assign =>
  intro l x W K hK
  gi_wp2
  exact hK
 case body =>
  rintro l pre x W ⟨⟨e4, e5⟩, b⟩ ⟨hx, hx8⟩
  have c4 := cell_of e4 0
  have f4 := free_of e4 0
  have c5 := cell_of e5 0
  simp at c4 c5
  have hxB : Bs W (some ⟨x.1, 0, none⟩) 8 x.2 := by
   have := Bs.rowAt (m := 0) hx
   rw [hx8] at this
   simpa using this
  have hlt := fnv_lt s0 (pre.flatMap (·.2)) hs0
  have hstep : fnv s0 (pre.flatMap (fun x => x.2) ++ x.2) = fnv (fnv s0 (pre.flatMap (·.2))) x.2 := by simp [fnv]
  gi_wp2_with (refine ⟨trivial, ?_⟩; gi_at_call 141; refine (CallsIn.inRound l (callsIn_wide.2 (through_any _ _ hlt _ 8 8 x.2 hxB (by omega)))).mono ?_; rintro e w1 ⟨rfl, rfl⟩)
  refine ⟨KeepsOthers.setCell _ _ _, (Below.refl w.heap.size W).setCell (p := ⟨w.heap.size, 0, none⟩) (Nat.le_refl _) _, ⟨?_, ?_⟩, b.setCell (p := ⟨w.heap.size, 0, none⟩) (Nat.le_refl _) _⟩
  ·
   rw [heap_setCell_same _ _ _ _ _ _ e4]
   simp
  ·
   rw [heap_setCell_other W ⟨w.heap.size, 0, none⟩ (w.heap.size + 1) _ (by simp)]
   exact e5
 case done =>
  rintro D ys W hD hS ⟨⟨e4, _⟩, hB⟩ hK
  have c4 := cell_of e4 0
  simp at c4
  gi_wp2
  refine ⟨by simp, .inl ⟨_, _, rfl, run_takeDeferred hK, ?_⟩⟩
  refine ⟨_, results_tmp rfl _ _ _, ?_, hB.trans (belowK_b (w := w) (Nat.le_refl _) W D _ _ (by omega) hK rfl rfl)⟩
  have : ys.flatMap (·.2) = mixB us := by
   unfold mixB
   rw [List.flatMap_def, hS, ← List.flatMap_def]
  rw [this]
  rfl
set_option maxHeartbeats 400000 in
theorem mix_any (w : World) (A : Option Addr) (n c : Nat) (us : List Nat) (h : U64s w A n us) (hn : n * 8 ≤ 140737488351232) :
  Calls Tryz.prog 71 #[.slice A n c] w fun e w' => e = .returned (.int .u64 (fnvS (mixB us) : Int)) ∧ Below w.heap.size w w' := by
 obtain ⟨V, hV, hcV, hb⟩ := news1 w (.cells #[.slice A n c] 89)
 have hsV : V.heap.size = w.heap.size + 1 := by rw [hV]; simp
 have bV : Below w.heap.size w V := by rw [hV]; exact (Below.refl _ w).alloc (Nat.le_refl _) _
 have hF := foldB_pieces V w.heap.size fnv0 (by decide) A n c us (h.chg hcV (by simp)) hn (by rw [cell_of hb]; rfl)
 have HF := Lib.hid hF
 have HV := Lib.hid hV
 have HB := Lib.hid bV
 have HS := Lib.hid hsV
 clear h hV hcV hb hF bV hsV
 go_enter Tryz.func71, Tryz.ntmps71
 go_wp2_with (first
  | (go_at_call 140; refine (pieces_any _ _ _ _).mono ?_; rintro e w1 ⟨rfl, hw1⟩; rw [← HV.out] at hw1; subst hw1)
  | (go_at_call 139; refine HF.out.mono ?_; rintro e w2 ⟨rfl, hb2⟩))
 go_ret
 exact ⟨rfl, HB.out.trans ⟨hb2.os, hb2.tape, hb2.output, hb2.size, fun k hk => hb2.block k (by have := HS.out; omega)⟩⟩
end
section
open Go.RowKit Go.Lib


theorem fine_take {l : List (Int × Int)} {k : Nat} {x : Int × Int} (h : l[k]? = some x) : fineL (l.take (k + 1)) = (fineL (l.take k) && decide (FineQ x.1 x.2)) := by
 rw [List.take_add_one, h]
 simp [fineL]
theorem fine_no {l : List (Int × Int)} {k : Nat} {x : Int × Int} (h : l[k]? = some x) (hx : ¬ FineQ x.1 x.2) : fineL l = false := by
 rcases hf : fineL l with _ | _
 ·
  rfl
 ·
  exact absurd (fineL_iff.1 hf x (List.mem_of_getElem? h)) hx
theorem alone_take {l : List (Int × Int)} {k : Nat} {x : Int × Int} (h : l[k]? = some x) : (l.take (k + 1)).map aloneP = (l.take k).map aloneP ++ [(x.1, x.2, x.2)] := by
 rw [List.take_add_one, h]
 simp [aloneP]
set_option maxRecDepth 100000 in
set_option maxHeartbeats 8000000 in
theorem qof_any (w : World) (A : Option Addr) (c : Nat) (l : List (Int × Int)) (h : RdK dotTy w A l.length l) (hn : l.length ≤ 100000) :
  Calls Tryz.prog 68 #[.slice A l.length c] w fun e w' => ∃ A' c', e = .returned (.tuple #[.slice A' (ofE l).2.length c', .int .i64 (ofE l).1]) ∧ OwnK spanTy w' A' c' (ofE l).2 ∧ (∀ a, A' = some a → w.heap.size ≤ a.block) ∧ Chg [] w w' := by
 have H := Lib.hid h
 have HL := Lib.hid hn
 clear h hn
 generalize hRR : ofE l = RR
 have HRR := Lib.hid hRR
 clear hRR
 go_enter Tryz.func68, Tryz.ntmps68
 go_wp2
 go_loopw [4, 5] (fun o i wr => ∃ (k : Nat) (A' : Option Addr) (d' : Nat), k ≤ l.length ∧ i = .int .i64 k ∧ o = .slice A' ((l.take k).map aloneP).length d' ∧ Hid (fineL (l.take k) = true) ∧ Hid (OwnK spanTy wr A' d' ((l.take k).map aloneP)) ∧ Hid (∀ a, A' = some a → w.heap.size ≤ a.block) ∧ Hid (Chg [] w wr)) (fun o i _ => l.length - (RowKit.intOf i).toNat)
 case atStart => exact ⟨0, none, 0, Nat.zero_le _, rfl, rfl, Lib.hid rfl, OwnK.none_ _, Lib.hid (by simp), Chg.refl _ _⟩
 case round =>
  obtain ⟨k, A1, d1, hi, rfl, rfl, FN, RO, RN, RC⟩ := hrel
  have i0 : (0 : Int) ≤ (k : Int) := by omega
  by_cases hlt : k < l.length
  ·
   have i1 : (k : Int) < (l.length : Int) := by omega
   have i3 : IntKind.i64.wrap ((k : Int) + 1) = (k : Int) + 1 := IntWalk.i64_in _ (by have := HL.out; omega)
   obtain ⟨x, hx⟩ : ∃ x, l[k]? = some x := ⟨_, List.getElem?_eq_getElem hlt⟩
   obtain ⟨g, o, eA, _⟩ := H.out.line (by omega)
   subst eA
   have DX : Hid (∀ w', Chg [] w w' → w'.cell? ⟨g, o + k * 2, none⟩ = some (.int .i64 x.1) ∧ w'.cell? ⟨g, o + k * 2 + 1, none⟩ = some (.int .i64 x.2)) := Lib.hid (fun w' hc => dotCells (H.out.chg hc (by simp)) hx)
   have AS := Lib.hid (alone_take hx)
   have AL : Hid (((l.take k).map aloneP).length ≤ l.length) := Lib.hid (by simp; omega)
   have FT := Lib.hid (fine_take hx)
   have NO : Hid (¬ FineQ x.1 x.2 → RR = (2, [])) := Lib.hid (fun q => by rw [← HRR.out]; unfold ofE; rw [fine_no hx q]; rfl)
   generalize (l.take k).map aloneP = acc at *
   obtain ⟨q0, q1⟩ := DX.out _ RC.out
   clear hx; go_wp2_with fail
   refine (hcheck_dot wr x.1 x.2).mono ?_
   rintro e wh ⟨rfl, hc⟩
   rw [chk_dot]
   clear q0 q1
   replace RO := Lib.hid (RO.out.chg hc (by simp))
   replace RC := Lib.hid (RC.out.trans hc)
   clear hc
   by_cases hf : FineQ x.1 x.2
   ·
    rw [if_pos hf]
    have NF : Hid (Hid (fineL (l.take (k + 1)) = true)) := Lib.hid (Lib.hid (by rw [FT.out, FN.out, decide_eq_true hf]; rfl))
    clear hf NO FT FN
    go_upto_region 7 with fail

    refine wp_region_held_drew (S := fun w' => w'.cell? ⟨g, o + k * 2, none⟩ = some (.int .i64 x.1) ∧ w'.cell? ⟨g, o + k * 2 + 1, none⟩ = some (.int .i64 x.2)) (by kernel_rfl) (DX.out _ (RC.out.trans (Chg.refl [] wh).drew)) (fun hHeld => ?_)
    have CD := Lib.hid (Chg.refl [] wh).drew
    replace RC := Lib.hid (RC.out.trans CD.out)
    replace RO := Lib.hid (RO.out.chg CD.out (by simp))
    clear CD hHeld
    generalize wh.drew = wc at *
    have N2 : Hid ((acc.length + 1) * 400 ≤ 140737488355327) := Lib.hid (by have := AL.out; have := HL.out; omega)
    refine sy 0 18 rfl rfl ?_ (hS := (DX.out _ RC.out))
    try simp only [Act.put, sA, s0, s1]
    refine sy 1 19 rfl rfl ?_ (hS := (DX.out _ RC.out))
    try simp only [Act.put, sA, s0, s1]
    refine sy 2 20 rfl rfl ?_ (hS := (DX.out _ RC.out))
    try simp only [Act.put, sA, s0, s1]
    refine sy 3 21 rfl rfl ?_ (hS := (DX.out _ RC.out))
    try simp only [Act.put, sA, s0, s1]
    refine sy 4 22 rfl rfl ?_ (hS := (DX.out _ RC.out))
    try simp only [Act.put, sA, s0, s1]
    refine sy 5 23 rfl rfl ?_ (hS := (DX.out _ RC.out)) (hy := by (intro w hSw; (try dsimp only at hSw); obtain ⟨q0, q1⟩ := hSw; go_simp; try with_reducible rfl))
    try simp only [Act.put, sA, s0, s1]
    refine sy 6 24 rfl rfl ?_ (hS := (DX.out _ RC.out))
    try simp only [Act.put, sA, s0, s1]
    refine sy 7 25 rfl rfl ?_ (hS := (DX.out _ RC.out))
    try simp only [Act.put, sA, s0, s1]
    refine sy 8 26 rfl rfl ?_ (hS := (DX.out _ RC.out))
    try simp only [Act.put, sA, s0, s1]
    refine sy 9 27 rfl rfl ?_ (hS := (DX.out _ RC.out))
    try simp only [Act.put, sA, s0, s1]
    refine sy 10 28 rfl rfl ?_ (hS := (DX.out _ RC.out)) (hy := by (intro w hSw; (try dsimp only at hSw); obtain ⟨q0, q1⟩ := hSw; go_simp; try with_reducible rfl))
    try simp only [Act.put, sA, s0, s1]
    refine sy 11 29 rfl rfl ?_ (hS := (DX.out _ RC.out))
    try simp only [Act.put, sA, s0, s1]
    refine sy 12 30 rfl rfl ?_ (hS := (DX.out _ RC.out))
    try simp only [Act.put, sA, s0, s1]
    refine sy 13 31 rfl rfl ?_ (hS := (DX.out _ RC.out))
    try simp only [Act.put, sA, s0, s1]
    refine sy 14 32 rfl rfl ?_ (hS := (DX.out _ RC.out))
    try simp only [Act.put, sA, s0, s1]
    refine sy 15 33 rfl rfl ?_ (hS := (DX.out _ RC.out)) (hy := by (intro w hSw; (try dsimp only at hSw); obtain ⟨q0, q1⟩ := hSw; go_simp; try with_reducible rfl))
    try simp only [Act.put, sA, s0, s1]
    refine sy 16 34 rfl rfl ?_ (hS := (DX.out _ RC.out))
    try simp only [Act.put, sA, s0, s1]
    refine wpAnyH_ready (rs := [17]) (by kernel_rfl) (by simp) ?_; refine AllReadyH.cons rfl (fun K hK => ?_) AllReadyH.nil; replace hK := Lib.hid hK
    have hHeld := DX.out _ RC.out
    obtain ⟨q0, q1⟩ := hHeld
    go_simp; clear q0 q1
    obtain ⟨px, hpp⟩ : ∃ p, wc.heap.size = p := ⟨_, rfl⟩
    have SZ := Lib.hid (sized RC.out hpp)
    have NS := Lib.hid hpp
    clear hpp
    obtain ⟨wn, hw, cn, bn⟩ := news1 wc (.cells #[.int .i64 x.1, .int .i64 x.2, .int .i64 x.2] 72)
    rw [← hw, NS.out]
    rw [NS.out] at bn
    have XR := Lib.hid (rd_oneS (x := (x.1, x.2, x.2)) bn)
    replace RC := Lib.hid (RC.out.trans cn)
    replace RO := Lib.hid (RO.out.chg cn (by simp))
    clear hw cn bn SZ
    refine hK.out _ _ (DX.out _ RC.out) (fun hHeld => ?_)
    clear hK K; try simp only [Act.put, sA, s0, s1]
    refine wpAnyH_ready (rs := [18]) (by kernel_rfl) (by simp) ?_; refine AllReadyH.cons rfl (fun K hK => ?_) AllReadyH.nil; replace hK := Lib.hid hK
    refine step_appK (R := spanTy) rfl (.tmp 18) (.tmp 35) rfl rfl (A := A1) (B := some ⟨px, 0, none⟩) (n := acc.length) (m := 1) (c := d1) (d := 1) (xs := acc) (ys := [(x.1, x.2, x.2)]) RO.out rfl rfl XR.out N2.out ?_
    intro A6 c6 w6 o6 g6 e6
    have O6 := Lib.hid o6
    have F6 := Lib.hid (fresh_appS RN.out RC.out g6 e6)
    replace RC := Lib.hid F6.out.2
    clear o6 g6 e6
    refine hK.out _ _ (DX.out _ RC.out) (fun hHeld => ?_)
    clear hK K; try simp only [Act.put, sA, s0, s1]
    refine sy 19 4 rfl rfl ?_ (hS := (DX.out _ RC.out))
    try simp only [Act.put, sA, s0, s1]
    refine wpAnyH_done (by kernel_rfl) ?_ _; clear hHeld; go_wp2; go_round
    case rel => exact ⟨k + 1, A6, c6, by omega, by go_num, by rw [AS.out]; simp, NF.out, by rw [AS.out]; exact O6, Lib.hid F6.out.1, RC⟩
    case measure => simp [RowKit.intOf]; omega

   ·
    rw [if_neg hf]
    obtain rfl := NO.out hf
    clear hf NO FT FN; go_wp2; go_ret2
    exact ⟨none, 0, rfl, OwnK.none_ _, by simp, RC.out⟩
  ·
   obtain rfl : k = l.length := by omega
   rw [List.take_length] at FN RO ⊢
   have i1 : ¬ (l.length : Int) < (l.length : Int) := by omega
   have HB : Hid (∀ x ∈ l.map aloneP, B3 x) := Lib.hid (alone_B3 FN.out)
   have AL : Hid ((l.map aloneP).length ≤ 100000) := Lib.hid (by simpa using HL.out)
   have ER : Hid (boundP (tidyS (l.map aloneP)) = RR) := Lib.hid (by rw [← HRR.out]; unfold ofE; rw [if_pos FN.out])
   clear FN HRR
   generalize l.map aloneP = acc at *
   go_wp2_with fail
   refine (qtidy_any wr A1 d1 acc RO.out.reads AL.out HB.out).mono ?_
   rintro e w9 ⟨A9, c9, rfl, h1, h2, h3⟩
   rw [ER.out] at h1 ⊢
   have O9 := Lib.hid h1
   have N9 : Hid (∀ a, A9 = some a → w.heap.size ≤ a.block) := Lib.hid (fun a ha => Nat.le_trans RC.out.size (h2 a ha))
   have C := Lib.hid (RC.out.trans h3)
   clear h1 h2 h3; go_wp2; go_ret2
   exact ⟨A9, c9, rfl, O9.out, N9.out, C.out⟩
end
section
open Go.RowKit Go.Sort

set_option maxHeartbeats 1000000 in
theorem dcompare_grow (w : World) (x y : Int × Int) :
    Calls Tryz.prog 159 #[.agg #[.int .i64 x.1, .int .i64 x.2], .agg #[.int .i64 y.1, .int .i64 y.2]] w fun e w' => e = .returned (.int .i64 (cmpD x.1 x.2 y.1 y.2)) ∧ ∃ q os, w' = grow (w.drewN q) os := by
  obtain ⟨a, s⟩ := x
  obtain ⟨b, t⟩ := y
  simp only
  obtain ⟨w0, hw0, c0, b0, b1⟩ := news2 w (.cells #[.int .i64 a, .int .i64 s] 24) (.cells #[.int .i64 b, .int .i64 t] 24)
  have k0 := cell_of b0 0
  have k1 := cell_of b0 1
  have k3 := cell_of b1 0
  have k4 := cell_of b1 1
  simp only [List.getElem?_toArray, List.getElem?_cons_succ, List.getElem?_cons_zero] at k0 k1 k3 k4
  have g0 := lt_of_heap b0
  have g1 := lt_of_heap b1
  have W0 := Lib.hid hw0
  have hgr : ∀ o, ∃ q os, (w0.alloc o).drew = grow (w.drewN q) os := fun o => by
    rw [hw0]
    exact ⟨1, #[(.cells #[.int .i64 a, .int .i64 s] 24), (.cells #[.int .i64 b, .int .i64 t] 24), o], by rw [alloc_eq_grow, alloc_eq_grow, alloc_eq_grow, grow_grow, grow_grow]; rfl⟩
  have GR := Lib.hid hgr
  clear hw0 c0 b0 b1 hgr
  unfold cmpD
  generalize hr : or2 (cmpI a b) (cmpI s t) = R
  have HR := Lib.hid hr
  clear hr
  go_enter Tryz.func159, Tryz.ntmps159
  go_wp2
  rw [← W0.out]
  have n1 := World.new_ne w0 ⟨w.heap.size, 0, none⟩ k0
  have n2 := World.new_ne w0 ⟨w.heap.size + 1, 0, none⟩ k3
  generalize w.heap.size + 1 = s1 at *
  generalize w.heap.size = s0 at *
  go_region_held3 (fun w' => w'.cell? ⟨s0, 0, none⟩ = some (.int .i64 a) ∧ w'.cell? ⟨s0, 1, none⟩ = some (.int .i64 s) ∧ w'.cell? ⟨s1, 0, none⟩ = some (.int .i64 b) ∧ w'.cell? ⟨s1, 1, none⟩ = some (.int .i64 t)) (first | exact ⟨k0, k1, k3, k4⟩ | go_keep)
    ((first
      | (go_at_call 211; (with_reducible refine (cmpint_any _ _ _).mono ?_); rintro e w1 ⟨rfl, rfl⟩)
      | (go_at_call 210; refine (or2_any _ w0.heap.size (cmpI a b) (cmpI s t) (show (w0.alloc _).drew.heap[_]? = _ from heap_alloc_new w0 _)).mono ?_; rintro e w1 ⟨rfl, rfl⟩)))
  all_goals
    go_wp2; go_ret
    exact ⟨by first | rfl | (rw [← HR.out]; rfl), GR.out _⟩
def cmpDD (x y : Int × Int) : Int := cmpD x.1 x.2 y.1 y.2
theorem ltDD (x y : Int × Int) : ltOf cmpDD x y = decide (LtD x.1 x.2 y.1 y.2) := by
 unfold ltOf cmpDD
 exact decide_eq_decide.2 cmpD_lt
theorem swoD : SWO (ltOf cmpDD) where
 irrefl x := by rw [ltDD]; simp [LtD]
 trans x y z h1 h2 := by
  rw [ltDD, decide_eq_true_eq] at *
  unfold LtD at *
  omega
 ntrans x y z h1 h2 := by
  rw [ltDD, decide_eq_false_iff_not] at *
  unfold LtD at *
  omega
theorem totalD (x y : Int × Int) (h1 : ltOf cmpDD x y = false) (h2 : ltOf cmpDD y x = false) : x = y := by
 rw [ltDD, decide_eq_false_iff_not] at h1 h2
 unfold LtD at h1 h2
 refine Prod.ext ?_ ?_ <;> omega
def sortL (xs : List (Int × Int)) : List (Int × Int) := xs.mergeSort fun x y => !(ltOf cmpDD) y x
theorem sortL_len (xs : List (Int × Int)) : (sortL xs).length = xs.length := List.length_mergeSort _
set_option maxHeartbeats 1000000 in
theorem sortfunc_some (w : World) (g c : Nat) (xs : List (Int × Int)) (h : OwnK dotTy w (some ⟨g, 0, none⟩) c xs) (hm : xs.length < 4611686018427387904) :
  Calls Tryz.prog 158 #[.slice (some ⟨g, 0, none⟩) xs.length c, .func (.func 159) #[] #[]] w fun e w' => e = .returned (.tuple #[]) ∧ OwnK dotTy w' (some ⟨g, 0, none⟩) c (sortL xs) ∧ Chg [g] w w' := by
 have hblk : g < w.heap.size := by
  rcases h.shape with ⟨h, _⟩ | ⟨g', h, hl⟩
  ·
   cases h
  ·
   cases h; exact hl
 have eg : ∀ args w, (callFunc 159 args).run Tryz.prog w = .ok (.enter 159 args) w := enters_of Tryz.func159 (by kernel_rfl) rfl
 have hcmp : CmpLays Tryz.prog 159 #[] dotTy.enc dotTy.k cmpDD g 0 xs.toArray.size w := fun m os dk _ x y => by
  have := dcompare_grow (sortWorldK dotTy.enc dotTy.k w g 0 m dk os) x y
  exact this
 have hcon := AnyQ.slices_SortFunc_total Tryz.llLaysD06 2 Tryz.isAgg24 Tryz.sizeOf24 dotTy.enc dotTy.klen dotTy.one cmpDD swoD 159 #[] g 0 c xs.toArray w eg hcmp h.holds hblk (by simpa using hm) totalD
 refine Calls.mono hcon ?_
 rintro e w' ⟨he, n, os, hw⟩
 refine ⟨he, ?_⟩
 rw [hw]
 exact h.sorted (ys := sortL xs) (sortL_len xs) n os
end
section
open Go.RowKit Go.Sort Go.Lib

theorem RdK.none_nil {α : Type} {R : RowTy α} {w : World} {n : Nat} {xs : List α} (h : RdK R w none n xs) : xs = [] := by
 cases xs with
 | nil => rfl
 | cons y ys =>
  have : 0 < (R.flat (y :: ys)).length := by rw [R.flat_len, List.length_cons]; exact Nat.mul_pos (by omega) R.kpos
  obtain ⟨a, h, _⟩ := h.cells 0 _ (List.getElem?_eq_getElem this); cases h
set_option maxRecDepth 100000 in
set_option maxHeartbeats 1000000 in
theorem cloneDot_any (w : World) (A : Option Addr) (n c : Nat) (xs : List (Int × Int)) (h : RdK dotTy w A n xs) (hn : n * 400 ≤ 140737488355327) :
  Calls Tryz.prog 157 #[.slice A n c] w fun e w' => ∃ A' c', e = .returned (.slice A' n c') ∧ OwnK dotTy w' A' c' xs ∧ (∀ a, A' = some a → w.heap.size ≤ a.block) ∧ Chg [] w w' := by
 have heq := fun W => Lib.run_eql_slice_nil (P := Tryz.prog) W 64 24 A n c 0 0 Tryz.underlying64
 cases A with
 | none =>
  have hx := h.none_nil
  subst hx
  have hl : n = 0 := h.len.symm
  subst hl; clear h
  go_enter Tryz.func157, Tryz.ntmps157
  go_wp2; go_ret
  exact ⟨none, 0, rfl, OwnK.none_ _, by simp, Chg.refl _ _⟩
 | some ad =>
  obtain ⟨w1, hw1, c1, b1⟩ := news1 w (.cells #[] 24)
  have W1 := Lib.hid hw1
  have HA := Lib.hid (h.chg c1 (by simp))
  have HO : Hid (OwnK dotTy w1 (some ⟨w.heap.size, 0, none⟩) 0 []) := Lib.hid (.of (full := []) b1 (Nat.le_refl _) (Nat.zero_le _) rfl rfl)
  have C1 := Lib.hid c1
  have HN : Hid ((0 + n) * 400 ≤ 140737488355327) := Lib.hid (by rw [Nat.zero_add]; exact hn)
  clear hw1 c1 b1 h hn
  go_enter Tryz.func157, Tryz.ntmps157
  go_wp2_with (at_builtin; rw [← W1.out]; refine wpList_appK rfl _ _ rfl rfl HO.out rfl rfl HA.out HN.out ?_; intro A2 c2 w2 u2 d2 e2)
  go_ret
  rw [Nat.zero_add] at *
  have hA2 : ∀ a, A2 = some a → w.heap.size ≤ a.block := by
   rintro a rfl
   rcases e2 with h | h
   ·
    cases h; exact Nat.le_refl _
   ·
    cases h; exact C1.out.size
  exact ⟨A2, c2, by simp, by simpa using u2, hA2, C1.out.grown d2 (fun k hk => by simp at hk; subst hk; exact .inr (Nat.le_refl _))⟩

theorem run_clearD (w : World) (ty : TypeId) (g c n k : Nat) (full : List (Int × Int)) (hg : w.heap[g]? = some (.cells (dotTy.flat full).toArray 24 (0, 0))) (hl : full.length = c) (hn : n ≤ c) (hk : k < n) :
  (Builtin.clear_ #[64] ty #[.slice (some ⟨g, k * 2, none⟩) (n - k) (c - k)]).run Tryz.prog w = .ok (.tuple #[]) (w.setRow g (dotTy.flat (full.take k ++ List.replicate (n - k) (0, 0) ++ full.drop n)).toArray) := by
 have hz := dotTy.zeros (n - k)
 have hk2 : dotTy.k = 2 := rfl
 have hlen : (dotTy.flat full).length = full.length * 2 := dotTy.flat_len full
 have hlz : (dotTy.flat (List.replicate (n - k) dotTy.z)).length = (n - k) * 2 := by rw [dotTy.flat_len, List.length_replicate, hk2]
 have hst := run_storeCells_at (P := Tryz.prog) g (k * 2) 24 (dotTy.flat (List.replicate (n - k) dotTy.z)) 0 _ w hg (by rw [hlz, List.size_toArray, hlen]; omega) (dotTy.flat_one _)
 have ht := dotTy.flat_take full k
 have hd := dotTy.flat_drop full n
 rw [hk2] at ht hd
 have hfin : ((dotTy.flat full).toArray.toList.take (k * 2 + 0) ++ dotTy.flat (List.replicate (n - k) dotTy.z) ++ (dotTy.flat full).toArray.toList.drop (k * 2 + 0 + (dotTy.flat (List.replicate (n - k) dotTy.z)).length)) = dotTy.flat (full.take k ++ List.replicate (n - k) (0, 0) ++ full.drop n) := by
  rw [dotTy.flat_app, dotTy.flat_app, ht, hd, hlz, show k * 2 + 0 + (n - k) * 2 = n * 2 by omega]
  rfl
 rw [hfin] at hst
 obtain ⟨m, hm⟩ : ∃ m, n - k = m + 1 := ⟨n - k - 1, by omega⟩
 have hzv : ∀ w, (zeroValue 24).run Tryz.prog w = .ok (.agg #[.int .i64 0, .int .i64 0]) w := Tryz.zeroValue24
 have hzz : (Builtin.zeroCells (Value.agg #[.int .i64 0, .int .i64 0]).cells (n - k)).toList = dotTy.flat (List.replicate (n - k) dotTy.z) := by
  exact (congrArg Array.toList hz).trans (by simp)
 rw [hm] at hst hzz ⊢
 simp [Builtin.clear_, run_underlying Tryz.underlying64, hzv, hzz, hst]
instance : Inhabited (Int × Int) := ⟨(0, 0)⟩
theorem dk_at {dk : Array (Int × Int)} {rest : List (Int × Int)} {j : Nat} (h : j < dk.size) : (dk.toList ++ rest)[j]? = some dk[j]! := by
 rw [List.getElem?_append_left (by simpa using h), Array.getElem?_toList, Array.getElem?_eq_getElem h, getElem!_pos dk j h]
theorem dk_set {dk : Array (Int × Int)} {rest : List (Int × Int)} {j : Nat} (x : Int × Int) (h : j < dk.size) : (dk.toList ++ rest).set j x = (dk.setIfInBounds j x).toList ++ rest := by
 rw [List.set_append_left _ _ (by simpa using h), Array.toList_setIfInBounds]
structure RowD (w wr : World) (g : Nat) (dk : Array (Int × Int)) (rest : List (Int × Int)) : Prop where
 row : wr.heap[g]? = some (.cells (dotTy.flat (dk.toList ++ rest)).toArray 24 (0, 0))
 chg : Chg [g] w wr
theorem RowD.at_ {w wr : World} {g : Nat} {dk : Array (Int × Int)} {rest : List (Int × Int)} (h : RowD w wr g dk rest) (hm : (dk.toList ++ rest).length ≤ maxLen) {j : Nat} (hj : j < dk.size) :
  (wr.cell? ⟨g, j * 2, none⟩ = some (.int .i64 dk[j]!.1) ∧ wr.cell? ⟨g, j * 2 + 1, none⟩ = some (.int .i64 dk[j]!.2)) ∧ wr.frozen? ⟨g, j * 2, none⟩ = false ∧ wr.frozen? ⟨g, j * 2 + 1, none⟩ = false := by
 have hrd : RdK dotTy wr (some ⟨g, 0, none⟩) (dk.toList ++ rest).length (dk.toList ++ rest) := (OwnK.of (R := dotTy) (xs := dk.toList ++ rest) h.row (Nat.le_refl _) hm rfl (List.take_length)).reads
 have := dotCells hrd (dk_at hj)
 simp only [Nat.zero_add] at this
 exact ⟨this, free_of h.row _, free_of h.row _⟩
theorem RowD.put {w wr : World} {g : Nat} {dk : Array (Int × Int)} {rest : List (Int × Int)} (h : RowD w wr g dk rest) {j : Nat} (hj : j < dk.size) (x : Int × Int) :
  RowD w ((wr.setCell ⟨g, j * 2, none⟩ (.int .i64 x.1)).setCell ⟨g, j * 2 + 1, none⟩ (.int .i64 x.2)) g (dk.setIfInBounds j x) rest := by
 refine ⟨?_, h.chg.trans (((Chg.refl [g] wr).setCell (p := ⟨g, j * 2, none⟩) (.inl (by simp)) _).setCell (p := ⟨g, j * 2 + 1, none⟩) (.inl (by simp)) _)⟩
 have := dotPut wr g j (dk.toList ++ rest) x h.row (by simp; omega)
 rwa [dk_set x hj] at this
theorem RowD.drew {w wr : World} {g : Nat} {dk : Array (Int × Int)} {rest : List (Int × Int)} (h : RowD w wr g dk rest) (n : Nat) : RowD w (wr.drewN n) g dk rest := ⟨h.row, h.chg.drewN n⟩
theorem Lib.CompInv.take_ {d dk : Array (Int × Int)} {m k : Nat} (h : CompInv d m k dk) (hm : m ≤ d.size) : dk.toList.take k = compactUpTo d m := by
 apply List.ext_getElem?
 intro j
 have hk := h.lt
 have hs := h.size
 by_cases hj : j < k
 ·
  rw [List.getElem?_take, if_pos hj, h.low j hj, Array.getElem?_toList, Array.getElem?_eq_getElem (by omega), getElem!_pos dk j (by omega)]
 ·
  rw [List.getElem?_eq_none (by simp; omega), List.getElem?_eq_none (by rw [h.len]; omega)]
def cmpct (xs : List (Int × Int)) : List (Int × Int) := compactUpTo xs.toArray xs.length
set_option maxHeartbeats 4000000 in
theorem compactDot_row (w : World) (g c : Nat) (xs rest : List (Int × Int)) (hg : w.heap[g]? = some (.cells (dotTy.flat (xs ++ rest)).toArray 24 (0, 0))) (hc : (xs ++ rest).length = c) (hcm : c ≤ 9223372036854775807) (h2 : ¬ xs.length < 2) :
  Calls Tryz.prog 160 #[.slice (some ⟨g, 0, none⟩) xs.length c] w fun e w' => e = .returned (.slice (some ⟨g, 0, none⟩) (cmpct xs).length c) ∧ OwnK dotTy w' (some ⟨g, 0, none⟩) c (cmpct xs) ∧ Chg [g] w w' := by
 obtain ⟨d, hd⟩ : ∃ d : Array (Int × Int), d = xs.toArray := ⟨_, rfl⟩
 have hds : d.size = xs.length := by rw [hd]; simp
 have hdl : d.toList = xs := by rw [hd]
 have hcr : d.size + rest.length = c := by rw [hds, ← hc, List.length_append]
 have hml : ∀ dk : Array (Int × Int), dk.size = d.size → (dk.toList ++ rest).length ≤ maxLen := fun dk h => by rw [List.length_append, Array.length_toList]; unfold maxLen; omega
 have HM := Lib.hid hml
 have hall0 : (∀ j, j < d.size → keeps d j = true) → cmpct xs = xs := fun h => by
  unfold cmpct
  rw [← hds, ← hd, compactUpTo_all d _ h, range_map_get, hdl]
 have HX := Lib.hid hall0
 have hct : cmpct xs = compactUpTo d d.size := by unfold cmpct; rw [hd]; simp
 have HC := Lib.hid hct
 have HR : Hid (RowD w w g d rest) := Lib.hid ⟨by rw [hdl]; exact hg, Chg.refl _ _⟩
 have HO := Lib.hid (OwnK.of (R := dotTy) (full := xs ++ rest) (xs := xs) hg (by rw [← hc]; simp) (by unfold maxLen; omega) hc List.take_left)
 have HD := Lib.hid hdl
 rw [← hds] at h2 ⊢
 have h2' : ¬ ((d.size : Int) < 2) := by omega
 have HS := Lib.hid hds
 have HCR := Lib.hid hcr
 have hle : d.size ≤ c := by omega
 clear hd hds hdl hml hall0 hct hg hc hcr
 go_enter Tryz.func160, Tryz.ntmps160
 go_wp2
 go_loopg [3] d.size (fun G s3 wr => ∃ k : Nat, 1 ≤ k ∧ k ≤ d.size ∧ d.size - k ≤ G ∧ s3 = .int .i64 k ∧ Hid (Chg [] w wr ∧ ∀ j, j < k → keeps d j = true))
 case atStart => exact ⟨1, Nat.le_refl _, by omega, by omega, rfl, Chg.refl _ _, keeps_lt_one d⟩
 case round =>
  obtain ⟨k, hk1, hk, hG, rfl, HA⟩ := hrel
  by_cases hlt : k < d.size
  ·
   have hrow : RowD w wr g d rest := ⟨HA.out.1.at_ HR.out.row (by simp), HA.out.1.mono (by simp)⟩
   obtain ⟨⟨p0, p1⟩, _⟩ := hrow.at_ (HM.out d rfl) hlt
   obtain ⟨⟨q0, q1⟩, _⟩ := hrow.at_ (HM.out d rfl) (j := k - 1) (by omega)
   have HRW := Lib.hid hrow
   have i0 : (0 : Int) ≤ (k : Int) := by omega
   have i1 : (k : Int) < (d.size : Int) := by omega
   have i2 : IntKind.i64.wrap ((k : Int) - 1) = ((k - 1 : Nat) : Int) := by rw [IntWalk.i64_in _ (by omega)]; omega
   have i3 : ((k - 1 : Nat) : Int) < (d.size : Int) := by omega
   generalize hx : d[k]! = x at *
   generalize hy : d[k - 1]! = y at *
   have B := Lib.hid (And.intro hx hy)
   clear hrow hx hy
   by_cases hxy : x = y
   ·
    subst hxy; skip; go_wp2_with fail
    go_quiet (fail)
    clear p0 p1 q0 q1
    have i4 : (0 : Int) ≤ ((d.size - k : Nat) : Int) := by omega
    have i5 : ¬ c = k := by omega
    go_wp2
    go_loopg [3, 5] d.size (fun G s3 s5 wr => ∃ (kk k2 : Nat) (dk : Array (Int × Int)), s3 = .int .i64 kk ∧ s5 = .int .i64 k2 ∧ 1 ≤ k2 ∧ k + k2 ≤ d.size ∧ d.size - (k + k2) ≤ G ∧ Hid (RowD w wr g dk rest ∧ CompInv d (k + k2) kk dk))
    case atStart => exact ⟨k, 1, d, rfl, rfl, Nat.le_refl _, by omega, by omega, HRW.out.drew _, CompInv.start HA.out.2 (keeps_neg (by omega) (by rw [B.out.1, B.out.2]))⟩
    case round =>
     obtain ⟨kk, k2, dk, rfl, rfl, h1, hle2, hg2, HI⟩ := hrel
     have hkk := HI.out.2.lt
     have hds := HI.out.2.size
     by_cases hlt2 : k + k2 < d.size
     ·
      obtain ⟨⟨p0, p1⟩, _⟩ := HI.out.1.at_ (HM.out dk hds) (j := k + k2) (by omega)
      obtain ⟨⟨q0, q1⟩, _⟩ := HI.out.1.at_ (HM.out dk hds) (j := k + k2 - 1) (by omega)
      obtain ⟨⟨r0, r1⟩, f0, f1⟩ := HI.out.1.at_ (HM.out dk hds) (j := kk) (by omega)
      rw [HI.out.2.high (k + k2) (by omega), show (k + k2) * 2 = k * 2 + k2 * 2 by omega] at p0 p1
      rw [HI.out.2.high (k + k2 - 1) (by omega), show (k + k2 - 1) * 2 = k * 2 + (k2 - 1) * 2 by omega] at q0 q1
      generalize hu : d[k + k2]! = u at *
      generalize hv : d[k + k2 - 1]! = v at *
      generalize dk[kk]! = old at *
      have C := Lib.hid (And.intro hu hv)
      clear hu hv
      have HP := Lib.hid ((HI.out.1.drew 1).put (j := kk) (by omega) u)
      have j0 : (0 : Int) ≤ (k2 : Int) := by omega
      have j1 : (k2 : Int) < ((d.size - k : Nat) : Int) := by omega
      have j2 : IntKind.i64.wrap ((k2 : Int) - 1) = ((k2 - 1 : Nat) : Int) := by rw [IntWalk.i64_in _ (by omega)]; omega
      have j3 : ((k2 - 1 : Nat) : Int) < ((d.size - k : Nat) : Int) := by omega
      have j4 : (0 : Int) ≤ (kk : Int) := by omega
      have j5 : (kk : Int) < (d.size : Int) := by omega
      by_cases huv : u = v
      ·
       subst huv; go_wp2_with fail
       go_quiet (fail)
       go_wp2
       go_roundg (d.size - (k + (k2 + 1)))
       case measure => omega
       case rel => exact ⟨kk, k2 + 1, dk, rfl, by go_num, by omega, by omega, Nat.le_refl _, HI.out.1.drew _, HI.out.2.skip (keeps_neg (by omega) (by rw [C.out.1, C.out.2]))⟩
      ·
       have HU := Lib.hid huv
       by_cases h0 : u.1 = v.1
       ·
        have h1 : ¬ u.2 = v.2 := fun h => huv (Prod.ext h0 h)
        clear huv; go_wp2_with fail
        go_quiet (fail)
        go_wp2
        go_roundg (d.size - (k + (k2 + 1)))
        case measure => omega
        case rel => exact ⟨kk + 1, k2 + 1, dk.setIfInBounds kk u, by go_num, by go_num, by omega, by omega, Nat.le_refl _, by have hp := (HI.out.1.drew nq).put (j := kk) (by omega) u; first | exact hp | (rw [h0] at hp; exact hp), by have := HI.out.2.keep hlt2 (keeps_pos (by rw [C.out.1, C.out.2]; exact HU.out)); rwa [C.out.1] at this⟩
       ·
        skip; clear huv; go_wp2_with fail
        go_quiet (fail)
        go_wp2
        go_roundg (d.size - (k + (k2 + 1)))
        case measure => omega
        case rel => exact ⟨kk + 1, k2 + 1, dk.setIfInBounds kk u, by go_num, by go_num, by omega, by omega, Nat.le_refl _, by have hp := (HI.out.1.drew nq).put (j := kk) (by omega) u; first | exact hp | (rw [h0] at hp; exact hp), by have := HI.out.2.keep hlt2 (keeps_pos (by rw [C.out.1, C.out.2]; exact HU.out)); rwa [C.out.1] at this⟩
     ·
      have hend : k + k2 = d.size := by omega
      have hcl := fun ty => run_clearD wr ty g c d.size kk (dk.toList ++ rest) HI.out.1.row (by rw [List.length_append, Array.length_toList, hds]; exact HCR.out) hle (by omega)
      have hI := HI.out.2
      rw [hend] at hI
      have hlen := hI.len
      have hdn := hI.done (0, 0)
      have j6 : ¬ c = kk := by omega
      have j7 : (kk : Int) ≤ (d.size : Int) := by omega
      have j8 : (0 : Int) ≤ (kk : Int) := by omega
      have HF := Lib.hid (And.intro hI hdn)
      clear hI hlen hdn
      have HJ := Lib.hid (And.intro hend (And.intro hkk hds))
      have hz : decide (k2 < d.size - k) = false := by simp; omega
      have hz2 : ¬ k2 < d.size - k := by omega
      clear hend hkk hds hlt2
      have hown := OwnK.of (R := dotTy) (w := wr.setRow g (dotTy.flat (List.take kk (dk.toList ++ rest) ++ (List.replicate (d.size - kk) (0, 0) ++ List.drop d.size (dk.toList ++ rest)))).toArray) (g := g) (c := c) (full := List.take kk (dk.toList ++ rest) ++ (List.replicate (d.size - kk) (0, 0) ++ List.drop d.size (dk.toList ++ rest))) (xs := cmpct xs) (setRow_heap wr g _ _ _ _ HI.out.1.row)
       (by rw [HC.out, HF.out.1.len]; omega) (by unfold maxLen; omega) (by have := HJ.out.2.2; have := HCR.out; simp; omega) (by rw [HC.out, HF.out.1.len, List.take_append_of_le_length (by have := HJ.out; simp; omega), List.take_take, Nat.min_self, List.take_append_of_le_length (by have := HJ.out; simp; omega)]; exact Lib.CompInv.take_ HF.out.1 (Nat.le_refl _))
      have hch : Chg [g] w (wr.setRow g (dotTy.flat (List.take kk (dk.toList ++ rest) ++ (List.replicate (d.size - kk) (0, 0) ++ List.drop d.size (dk.toList ++ rest)))).toArray) := HI.out.1.chg.trans ⟨rfl, rfl, rfl, by simp, fun i hi hn => setRow_other wr g i _ (by simpa using hn)⟩
      have HE := Lib.hid (And.intro hown hch)
      clear hown hch; go_wp2; go_ret
      exact ⟨by rw [HC.out, HF.out.1.len]; rfl, HE.out.1, HE.out.2⟩
   ·
    have HU := Lib.hid hxy
    by_cases h0 : x.1 = y.1
    ·
     have h1 : ¬ x.2 = y.2 := fun h => hxy (Prod.ext h0 h)
     clear hxy; go_wp2_with fail
     go_quiet (fail)
     go_wp2
     go_roundg (d.size - (k + 1))
     case measure => omega
     case rel =>
      refine ⟨k + 1, by omega, by omega, Nat.le_refl _, by go_num, HA.out.1.drewN _, fun j hj => ?_⟩
      by_cases e : j = k
      ·
       subst e
       exact keeps_pos (by rw [B.out.1, B.out.2]; exact HU.out)
      ·
       exact HA.out.2 j (by omega)
    ·
     skip; clear hxy; go_wp2_with fail
     go_quiet (fail)
     go_wp2
     go_roundg (d.size - (k + 1))
     case measure => omega
     case rel =>
      refine ⟨k + 1, by omega, by omega, Nat.le_refl _, by go_num, HA.out.1.drewN _, fun j hj => ?_⟩
      by_cases e : j = k
      ·
       subst e
       exact keeps_pos (by rw [B.out.1, B.out.2]; exact HU.out)
      ·
       exact HA.out.2 j (by omega)
  ·
   obtain rfl : k = d.size := by omega
   clear hlt; go_wp2; go_ret
   rw [HX.out HA.out.2]
   exact ⟨by rw [← HS.out]; rfl, HO.out.chg HA.out.1 (by simp), HA.out.1.mono (by simp)⟩
end
section
open Go.RowKit Go.Sort Go.Lib

theorem cmpct_small {xs : List (Int × Int)} (h : xs.length < 2) : cmpct xs = xs := by
 unfold cmpct
 have hk : ∀ j, j < xs.length → keeps xs.toArray j = true := fun j hj => keeps_lt_one _ j (by omega)
 rw [compactUpTo_all _ _ hk]
 have := range_map_get xs.toArray
 simpa using this
theorem compactDot_any (w : World) (A : Option Addr) (n c : Nat) (xs : List (Int × Int)) (h : OwnK dotTy w A c xs) (hn : n = xs.length) (hm : n ≤ 140737488351232) :
  Calls Tryz.prog 160 #[.slice A n c] w fun e w' => e = .returned (.slice A (cmpct xs).length c) ∧ OwnK dotTy w' A c (cmpct xs) ∧ Chg (blkOf A) w w' := by
 subst hn
 by_cases h2 : xs.length < 2
 ·
  rw [cmpct_small h2]
  have hi : (xs.length : Int) < 2 := by omega
  have HO := Lib.hid h
  clear h h2
  go_enter Tryz.func160, Tryz.ntmps160
  go_wp2; go_ret
  exact ⟨rfl, HO.out, Chg.refl _ _⟩
 ·
  rcases h with ⟨_, rfl, _⟩ | ⟨g, full, rfl, hg, hl, hc, hn, ht⟩
  ·
   simp at h2
  ·
   have hs : full = xs ++ full.drop xs.length := by
    conv => lhs; rw [← List.take_append_drop xs.length full]
    rw [ht]
   have := compactDot_row w g c xs (full.drop xs.length) (by rw [← hs]; exact hg) (by rw [← hs]; exact hl) (by unfold maxLen at hc; exact hc) h2
   exact this
theorem sortfunc_any (w : World) (A : Option Addr) (n c : Nat) (xs : List (Int × Int)) (h : OwnK dotTy w A c xs) (hn : n = xs.length) (hm : n ≤ 140737488351232) :
  Calls Tryz.prog 158 #[.slice A n c, .func (.func 159) #[] #[]] w fun e w' => e = .returned (.tuple #[]) ∧ OwnK dotTy w' A c (sortL xs) ∧ Chg (blkOf A) w w' := by
 subst hn
 rcases h.shape with ⟨rfl, rfl, rfl⟩ | ⟨g, rfl, _⟩
 ·
  have := AnyF.slices_SortFunc_none Tryz.llLaysD06 none 0 (.func (.func 159) #[] #[]) w
  refine Calls.mono this ?_
  rintro e w' ⟨he, rfl⟩
  have e0 : sortL [] = [] := List.eq_nil_of_length_eq_zero (sortL_len [])
  rw [e0]
  exact ⟨he, OwnK.none_ _, Chg.refl _ _⟩
 ·
  exact sortfunc_some w g c xs h (by omega)
def sortD (xs : List (Int × Int)) : List (Int × Int) := cmpct (sortL xs)
set_option maxHeartbeats 1000000 in
theorem dsort_any (w : World) (A : Option Addr) (n c : Nat) (xs : List (Int × Int)) (h : RdK dotTy w A n xs) (hn : n * 400 ≤ 140737488355327) :
  Calls Tryz.prog 92 #[.slice A n c] w fun e w' => ∃ A' c', e = .returned (.slice A' (sortD xs).length c') ∧ OwnK dotTy w' A' c' (sortD xs) ∧ (∀ a, A' = some a → w.heap.size ≤ a.block) ∧ Chg [] w w' := by
 have hl := h.len
 have HA := Lib.hid h
 have HN := Lib.hid hn
 have HL := Lib.hid hl
 clear h hn hl
 go_enter Tryz.func92, Tryz.ntmps92
 go_wp2_with fail
 refine (cloneDot_any w A n c xs HA.out HN.out).mono ?_
 rintro e w1 ⟨A1, c1, rfl, o1, n1, h1⟩
 have O1 := Lib.hid o1
 have N1 := Lib.hid n1
 have C1 := Lib.hid h1
 clear o1 n1 h1; go_wp2_with fail
 refine (sortfunc_any w1 A1 n c1 xs O1.out HL.out.symm (by have := HN.out; omega)).mono ?_
 rintro e w2 ⟨rfl, o2, h2⟩
 have O2 := Lib.hid o2
 have C2 := Lib.hid (C1.out.trans' h2 fun i hi => .inr (blkOf_new N1.out i hi))
 clear o2 h2 O1; go_wp2_with fail
 refine (compactDot_any w2 A1 n c1 (sortL xs) O2.out (by rw [sortL_len]; exact HL.out.symm) (by have := HN.out; omega)).mono ?_
 rintro e w3 ⟨rfl, o3, h3⟩
 have O3 := Lib.hid o3
 have C3 := Lib.hid (C2.out.trans' h3 fun i hi => .inr (blkOf_new N1.out i hi))
 clear o3 h3; go_wp2; go_ret
 exact ⟨A1, c1, rfl, O3.out, N1.out, C3.out⟩
end
section
open Go.RowKit Go.Sort Go.Lib

def LtP (x y : Int × Int) : Prop := LtD x.1 x.2 y.1 y.2
instance (x y : Int × Int) : Decidable (LtP x y) := by unfold LtP; exact inferInstance
theorem LtP.irr (x : Int × Int) : ¬ LtP x x := by unfold LtP LtD; omega
theorem LtP.tr {x y z : Int × Int} (h : LtP x y) (k : LtP y z) : LtP x z := by unfold LtP LtD at *; omega
theorem LtP.conn {x y : Int × Int} (h : ¬ LtP x y) (k : ¬ LtP y x) : x = y := by
 unfold LtP LtD at *
 refine Prod.ext ?_ ?_ <;> omega
theorem strict_ext : ∀ {l m : List (Int × Int)}, l.Pairwise LtP → m.Pairwise LtP → (∀ x, x ∈ l ↔ x ∈ m) → l = m
 | [], [], _, _, _ => rfl
 | [], y :: m, _, _, h => absurd ((h y).2 (by simp)) (by simp)
 | x :: l, [], _, _, h => absurd ((h x).1 (by simp)) (by simp)
 | x :: l, y :: m, hl, hm, h => by
  rw [List.pairwise_cons] at hl hm
  have hxy : x = y := by
   have h1 := (h x).1 (by simp)
   have h2 := (h y).2 (by simp)
   rw [List.mem_cons] at h1 h2
   rcases h1 with h1 | h1
   ·
    exact h1
   ·
    rcases h2 with h2 | h2
    ·
     exact h2.symm
    ·
     exact absurd ((hm.1 x h1).tr (hl.1 y h2)) (LtP.irr y)
  subst hxy
  congr 1
  refine strict_ext hl.2 hm.2 fun z => ?_
  have := h z
  rw [List.mem_cons, List.mem_cons] at this
  constructor
  ·
   intro hz
   rcases this.1 (.inr hz) with e | e
   ·
    subst e; exact absurd (hl.1 z hz) (LtP.irr z)
   ·
    exact e
  ·
   intro hz
   rcases this.2 (.inr hz) with e | e
   ·
    subst e; exact absurd (hm.1 z hz) (LtP.irr z)
   ·
    exact e
theorem sortL_sorted (xs : List (Int × Int)) : (sortL xs).Pairwise fun x y => ¬ LtP y x := by
 have h := List.pairwise_mergeSort (le := fun x y => !(ltOf cmpDD) y x) (fun a b c h1 h2 => by
  simp only [ltDD, Bool.not_eq_true', decide_eq_false_iff_not] at *
  unfold LtD at *; omega) (fun a b => by
  simp only [ltDD, Bool.or_eq_true, Bool.not_eq_true', decide_eq_false_iff_not] at *
  unfold LtD; omega) xs
 refine h.imp ?_
 intro a b hab
 simp only [ltDD, Bool.not_eq_true', decide_eq_false_iff_not] at hab
 exact hab
theorem sortL_mem (xs : List (Int × Int)) (x : Int × Int) : x ∈ sortL xs ↔ x ∈ xs := List.mem_mergeSort
theorem range_cmp (xs : List (Int × Int)) (m : Nat) (hm : m ≤ xs.length) (hs : xs.Pairwise fun x y => ¬ LtP y x) :
  (compactUpTo xs.toArray m).Pairwise LtP ∧ (∀ x, x ∈ compactUpTo xs.toArray m ↔ x ∈ xs.take m) := by
 induction m with
 | zero => simp [compactUpTo]
 | succ m ih =>
  obtain ⟨h1, h2⟩ := ih (by omega)
  have hml : m < xs.length := by omega
  have hx : xs.toArray[m]! = xs[m] := by rw [getElem!_pos xs.toArray m (by simpa using hml)]; simp
  have ht : xs.take (m + 1) = xs.take m ++ [xs[m]] := List.take_succ_eq_append_getElem hml
  have hlo : ∀ a ∈ xs.take m, ¬ LtP xs[m] a := by
   intro a ha
   obtain ⟨i, hi, e⟩ := List.getElem_of_mem ha
   rw [List.length_take] at hi
   rw [List.getElem_take] at e
   subst e
   exact List.pairwise_iff_getElem.1 hs i m (by omega) hml (by omega)
  rw [compactUpTo_succ, ht, hx]
  by_cases hk : keeps xs.toArray m = true
  ·
   rw [if_pos hk]
   refine ⟨?_, fun x => by rw [List.mem_append, List.mem_append, h2]⟩
   rw [List.pairwise_append]
   refine ⟨h1, by simp, fun a ha b hb => ?_⟩
   rw [List.mem_singleton] at hb
   subst hb
   have ha2 := (h2 a).1 ha
   refine Decidable.byContradiction fun hc => ?_
   have e : a = xs[m] := LtP.conn hc (hlo a ha2)
   -- a is xs[m] and lies ahead: all between are it, so xs[m-1] is it
   simp only [keeps, decide_eq_true_eq] at hk
   rcases hk with hk | hk
   ·
    subst hk; simp at ha2
   ·
    apply hk
    rw [hx, getElem!_pos xs.toArray (m - 1) (by simp; omega)]
    obtain ⟨i, hi, e2⟩ := List.getElem_of_mem ha2
    rw [List.length_take] at hi
    rw [List.getElem_take] at e2
    have h0 : 0 < m := by omega
    by_cases him : i = m - 1
    ·
     subst him; simp only [List.getElem_toArray]; rw [e2, e]
    ·
     have p1 := List.pairwise_iff_getElem.1 hs i (m - 1) (by omega) (by omega) (by omega)
     have p2 := List.pairwise_iff_getElem.1 hs (m - 1) m (by omega) hml (by omega)
     rw [e2, e] at p1
     simp only [List.getElem_toArray]
     exact (LtP.conn p1 p2).symm
  ·
   rw [if_neg hk, List.append_nil]
   refine ⟨h1, fun x => ?_⟩
   rw [h2, List.mem_append, List.mem_singleton]
   constructor
   ·
    exact .inl
   ·
    rintro (h | rfl)
    ·
     exact h
    ·
     simp only [keeps, decide_eq_true_eq, not_or, Decidable.not_not, ne_eq] at hk
     obtain ⟨h0, he⟩ := hk
     rw [hx, getElem!_pos xs.toArray (m - 1) (by simp; omega)] at he
     simp only [List.getElem_toArray] at he
     rw [he]
     exact List.mem_iff_getElem.2 ⟨m - 1, by rw [List.length_take]; omega, by rw [List.getElem_take]⟩
theorem sortD_strict (xs : List (Int × Int)) : (sortD xs).Pairwise LtP ∧ ∀ x, x ∈ sortD xs ↔ x ∈ xs := by
 obtain ⟨h1, h2⟩ := range_cmp (sortL xs) (sortL xs).length (Nat.le_refl _) (sortL_sorted xs)
 refine ⟨h1, fun x => ?_⟩
 show x ∈ compactUpTo (sortL xs).toArray (sortL xs).length ↔ _
 rw [h2, List.take_length, sortL_mem]
end
section
open Go.RowKit Go.Sort Go.Lib

def cntD (x : Int × Int) : List (Int × Int) → Nat
 | [] => 0
 | y :: l => if LtP y x then cntD x l + 1 else 0
def insD (x : Int × Int) (l : List (Int × Int)) : List (Int × Int) :=
 if l[cntD x l]? = some x then l else l.take (cntD x l) ++ x :: l.drop (cntD x l)
theorem cntD_le (x : Int × Int) : ∀ l, cntD x l ≤ l.length
 | [] => Nat.le_refl _
 | y :: l => by unfold cntD; split <;> have := cntD_le x l <;> simp <;> omega
theorem cntD_lt (x : Int × Int) : ∀ (l : List (Int × Int)) (i : Nat) (y : Int × Int), l[i]? = some y → i < cntD x l → LtP y x
 | [], i, y, h, _ => by simp at h
 | z :: l, 0, y, h, hi => by
  simp at h; subst h
  unfold cntD at hi
  split at hi
  ·
   assumption
  ·
   omega
 | z :: l, i + 1, y, h, hi => by
  unfold cntD at hi
  split at hi
  ·
   exact cntD_lt x l i y (by simpa using h) (by omega)
  ·
   omega
theorem cntD_at (x : Int × Int) : ∀ (l : List (Int × Int)) (y : Int × Int), l[cntD x l]? = some y → ¬ LtP y x
 | [], y, h => by simp at h
 | z :: l, y, h => by
  unfold cntD at h
  split at h
  ·
   exact cntD_at x l y (by simpa using h)
  ·
   simp at h; subst h; assumption
theorem insD_len (x : Int × Int) (l : List (Int × Int)) : (insD x l).length ≤ l.length + 1 := by
 unfold insD
 have := cntD_le x l
 split <;> simp <;> omega
theorem insD_mem (x y : Int × Int) (l : List (Int × Int)) : y ∈ insD x l ↔ y = x ∨ y ∈ l := by
 unfold insD
 split
 ·
  rename_i h
  constructor
  ·
   exact .inr
  ·
   rintro (rfl | h2)
   ·
    exact List.mem_of_getElem? h
   ·
    exact h2
 ·
  rw [List.mem_append, List.mem_cons]
  conv => rhs; rw [← List.take_append_drop (cntD x l) l, List.mem_append]
  constructor
  ·
   rintro (h | h | h)
   ·
    exact .inr (.inl h)
   ·
    exact .inl h
   ·
    exact .inr (.inr h)
  ·
   rintro (h | h | h)
   ·
    exact .inr (.inl h)
   ·
    exact .inl h
   ·
    exact .inr (.inr h)
theorem insD_strict (x : Int × Int) (l : List (Int × Int)) (h : l.Pairwise LtP) : (insD x l).Pairwise LtP := by
 unfold insD
 split
 ·
  exact h
 ·
  rename_i hne
  have hs : (l.take (cntD x l) ++ l.drop (cntD x l)).Pairwise LtP := by rw [List.take_append_drop]; exact h
  rw [List.pairwise_append] at hs ⊢
  obtain ⟨a, b, c⟩ := hs
  have hd : ∀ y ∈ l.drop (cntD x l), LtP x y := by
   cases hdr : l.drop (cntD x l) with
   | nil => simp
   | cons z r =>
    have hz : l[cntD x l]? = some z := by
     have := List.getElem?_drop (xs := l) (i := cntD x l) (j := 0)
     rw [hdr] at this
     simpa using this.symm
    have h1 := cntD_at x l z hz
    have hxz : LtP x z := Decidable.byContradiction fun hc => hne (by rw [hz, LtP.conn h1 hc])
    rw [hdr, List.pairwise_cons] at b
    intro y hy
    rcases List.mem_cons.1 hy with rfl | hy
    ·
     exact hxz
    ·
     exact hxz.tr (b.1 y hy)
  have ht : ∀ y ∈ l.take (cntD x l), LtP y x := by
   intro y hy
   obtain ⟨i, hi, e⟩ := List.getElem_of_mem hy
   rw [List.length_take] at hi
   rw [List.getElem_take] at e
   subst e
   exact cntD_lt x l i _ (List.getElem?_eq_getElem (by omega)) (by omega)
  refine ⟨a, ?_, ?_⟩
  ·
   rw [List.pairwise_cons]; exact ⟨hd, b⟩
  ·
   intro y hy z hz
   rcases List.mem_cons.1 hz with rfl | hz
   ·
    exact ht y hy
   ·
    exact c y hy z hz
def insAll (xs : List (Int × Int)) : List (Int × Int) := xs.foldl (fun l x => insD x l) []
theorem insAll_snoc (xs : List (Int × Int)) (x : Int × Int) : insAll (xs ++ [x]) = insD x (insAll xs) := by simp [insAll]
theorem insAll_props (xs : List (Int × Int)) : (insAll xs).Pairwise LtP ∧ (∀ x, x ∈ insAll xs ↔ x ∈ xs) ∧ (insAll xs).length ≤ xs.length := by
 have : ∀ m : List (Int × Int), (insAll m.reverse).Pairwise LtP ∧ (∀ x, x ∈ insAll m.reverse ↔ x ∈ m.reverse) ∧ (insAll m.reverse).length ≤ m.length := by
  intro m
  induction m with
  | nil => simp [insAll]
  | cons y m ih =>
   rw [List.reverse_cons, insAll_snoc]
   refine ⟨insD_strict _ _ ih.1, fun x => ?_, ?_⟩
   ·
    rw [insD_mem, ih.2.1, List.mem_append, List.mem_singleton]
    constructor
    ·
     rintro (h | h); exact .inr h; exact .inl h
    ·
     rintro (h | h); exact .inr h; exact .inl h
   ·
    have := insD_len y (insAll m.reverse)
    simp; omega
 have h := this xs.reverse
 rw [List.reverse_reverse, List.length_reverse] at h
 exact h
theorem insAll_sortD (xs : List (Int × Int)) : insAll xs = sortD xs := by
 refine strict_ext (insAll_props xs).1 (sortD_strict xs).1 fun x => ?_
 rw [(insAll_props xs).2.1, (sortD_strict xs).2]
end
section
open Go.RowKit Go.Lib


theorem fineDQ (n s : Int) : FineD n s ↔ FineQ n s := Iff.rfl
set_option maxRecDepth 100000 in
set_option maxHeartbeats 4000000 in
theorem of1_any (w : World) (n s : Int) : Calls Tryz.prog 88 #[.agg #[.int .i64 n, .int .i64 s]] w fun e w' => e = .returned (.bool (decide (¬ FineQ n s))) ∧ Chg [] w w' := by
 obtain ⟨w1, hw1, c1, b1⟩ := news1 w (.cells #[.int .i64 n, .int .i64 s] 24)
 have W1 := Lib.hid hw1
 have C := Lib.hid c1
 have z0 := cell_of b1 0
 have z1 := cell_of b1 1
 simp only [List.getElem?_toArray, List.getElem?_cons_succ, List.getElem?_cons_zero] at z0 z1
 clear hw1 c1 b1
 generalize hv : decide (¬ FineQ n s) = v
 have HV := Lib.hid hv
 clear hv
 go_enter Tryz.func88, Tryz.ntmps88
 go_upto_region 1 with fail
 rw [← W1.out]
 generalize w.heap.size = g0 at *
 go_wp2_with fail
 refine (dcheck_any w1 n s).mono ?_
 rintro e w2 ⟨rfl, hc⟩
 replace C := Lib.hid (C.out.trans hc)
 clear hc z0 z1
 by_cases hf : FineQ n s
 ·
  rw [chkD_fine hf]
  obtain rfl : v = false := by rw [← HV.out]; exact decide_eq_false (fun q => q hf)
  clear hf HV; go_wp2; go_ret
  exact ⟨rfl, C.out⟩
 ·
  rw [chkD_odd hf]
  obtain rfl : v = true := by rw [← HV.out]; exact decide_eq_true hf
  clear hf HV; go_wp2; go_ret
  exact ⟨rfl, C.out⟩
set_option maxRecDepth 100000 in
set_option maxHeartbeats 4000000 in
theorem idxdot_any (w : World) (A : Option Addr) (c : Nat) (l : List (Int × Int)) (h : RdK dotTy w A l.length l) (hn : l.length ≤ 140737488351232) :
  Calls Tryz.prog 156 #[.slice A l.length c, .func (.func 88) #[] #[]] w fun e w' => (∃ v : Int, e = .returned (.int .i64 v) ∧ fineL l = decide (v < 0)) ∧ Chg [] w w' := by
 have H := Lib.hid h
 have HN := Lib.hid hn
 clear h hn
 go_enter Tryz.func156, Tryz.ntmps156
 go_wp2
 go_loopw [5, 8] (fun v5 v8 wr => ∃ (k : Nat), k ≤ l.length ∧ v8 = .int .i64 k ∧ Hid (fineL (l.take k) = true) ∧ Hid (Chg [] w wr)) (fun _ v8 _ => l.length - (RowKit.intOf v8).toNat)
 case atStart => exact ⟨0, Nat.zero_le _, rfl, Lib.hid rfl, Chg.refl _ _⟩
 case round =>
  obtain ⟨k, hk, rfl, FN, RC⟩ := hrel
  have i0 : (0 : Int) ≤ (k : Int) := by omega
  by_cases hlt : k < l.length
  ·
   have i1 : (k : Int) < (l.length : Int) := by omega
   have i3 : IntKind.i64.wrap ((k : Int) + 1) = (k : Int) + 1 := IntWalk.i64_in _ (by have := HN.out; omega)
   obtain ⟨x, hx⟩ : ∃ x, l[k]? = some x := ⟨_, List.getElem?_eq_getElem hlt⟩
   obtain ⟨g, o, eA, _⟩ := H.out.line (by omega)
   subst eA
   obtain ⟨q0, q1⟩ := dotCells (H.out.chg RC.out (by simp)) hx
   have FT := Lib.hid (fine_take hx)
   have NO : Hid (¬ FineQ x.1 x.2 → fineL l = false) := Lib.hid (fun q => fine_no hx q)
   clear hx; go_wp2_with fail
   refine (of1_any wr x.1 x.2).mono ?_
   rintro e w2 ⟨rfl, hc⟩
   have C2 := Lib.hid (RC.out.trans hc)
   clear hc q0 q1
   by_cases hf : FineQ x.1 x.2
   ·
    rw [decide_eq_false (fun q => q hf)]
    have NF : Hid (Hid (fineL (l.take (k + 1)) = true)) := Lib.hid (Lib.hid (by rw [FT.out, FN.out, decide_eq_true hf]; rfl))
    clear hf NO FT FN; go_wp2; go_round
    case rel => exact ⟨k + 1, by omega, by go_num, NF.out, C2.out⟩
    case measure => simp [RowKit.intOf]; omega
   ·
    rw [decide_eq_true hf]
    have NF := Lib.hid (NO.out hf)
    clear hf NO FT FN; go_wp2; go_ret
    exact ⟨by rw [NF.out]; simp, C2.out⟩
  ·
   obtain rfl : k = l.length := by omega
   rw [List.take_length] at FN
   have i1 : ¬ (l.length : Int) < (l.length : Int) := by omega
   go_wp2; go_ret
   exact ⟨by rw [FN.out]; simp, RC.out⟩
set_option maxRecDepth 100000 in
set_option maxHeartbeats 4000000 in
theorem containsdot_any (w : World) (A : Option Addr) (c : Nat) (l : List (Int × Int)) (h : RdK dotTy w A l.length l) (hn : l.length ≤ 140737488351232) :
  Calls Tryz.prog 87 #[.slice A l.length c, .func (.func 88) #[] #[]] w fun e w' => e = .returned (.bool (!fineL l)) ∧ Chg [] w w' := by
 have go : ∀ v, (!fineL l) = v → Calls Tryz.prog 87 #[.slice A l.length c, .func (.func 88) #[] #[]] w (fun e w' => e = .returned (.bool v) ∧ Chg [] w w') → Calls Tryz.prog 87 #[.slice A l.length c, .func (.func 88) #[] #[]] w fun e w' => e = .returned (.bool (!fineL l)) ∧ Chg [] w w' := fun v hv h => hv ▸ h
 have H := Lib.hid h
 have HN := Lib.hid hn
 clear h hn
 rcases hf : fineL l with _ | _
 ·
  rw [hf] at go
  refine go true rfl ?_
  clear go
  go_enter Tryz.func87, Tryz.ntmps87
  go_wp2_with fail
  refine (idxdot_any w A c l H.out HN.out).mono ?_
  rintro e w2 ⟨⟨v, rfl, hv⟩, hc⟩
  have C := Lib.hid hc
  have hv2 : decide ((0 : Int) ≤ v) = true := decide_eq_true (by rw [hf] at hv; have := of_decide_eq_false hv.symm; omega)
  clear hv hc hf; go_wp2; go_ret
  exact ⟨rfl, C.out⟩
 ·
  rw [hf] at go
  refine go false rfl ?_
  clear go
  go_enter Tryz.func87, Tryz.ntmps87
  go_wp2_with fail
  refine (idxdot_any w A c l H.out HN.out).mono ?_
  rintro e w2 ⟨⟨v, rfl, hv⟩, hc⟩
  have C := Lib.hid hc
  have hv2 : decide ((0 : Int) ≤ v) = false := decide_eq_false (by rw [hf] at hv; have := of_decide_eq_true hv.symm; omega)
  clear hv hc hf; go_wp2; go_ret
  exact ⟨rfl, C.out⟩
set_option maxRecDepth 100000 in
set_option maxHeartbeats 4000000 in
theorem of2_any (w : World) (A : Option Addr) (c : Nat) (xs : List Sp) (n s : Int) (h : OwnK spanTy w A c xs) (hn : xs.length ≤ 100000) (hb : ∀ x ∈ xs, B3 x) :
  Calls Tryz.prog 93 #[.slice A xs.length c, .agg #[.int .i64 n, .int .i64 s]] w fun e w' => ∃ A' c', e = .returned (.slice A' (pushP xs (n, s, s)).length c') ∧ OwnK spanTy w' A' c' (pushP xs (n, s, s)) ∧ (A' = A ∨ ∀ a, A' = some a → w.heap.size ≤ a.block) ∧ ∀ S : List Nat, (∀ a, A = some a → a.block ∈ S) → Chg S w w' := by
 obtain ⟨w1, hw1, c1, b1⟩ := news1 w (.cells #[.int .i64 n, .int .i64 s] 24)
 have W1 := Lib.hid hw1
 have C := Lib.hid c1
 have H := Lib.hid (h.chg c1 (by simp))
 have HN := Lib.hid hn
 have HB := Lib.hid hb
 have z0 := cell_of b1 0
 have z1 := cell_of b1 1
 simp only [List.getElem?_toArray, List.getElem?_cons_succ, List.getElem?_cons_zero] at z0 z1
 clear hw1 c1 b1 h hn hb
 generalize hSZ : w.heap.size = sz
 have SZ := Lib.hid hSZ
 clear hSZ
 go_enter Tryz.func93, Tryz.ntmps93
 go_upto_region 1 with fail
 rw [← W1.out]
 rw [SZ.out] at z0 z1
 rw [SZ.out]
 go_wp2_with fail
 refine (alone_any w1 n s).mono ?_
 rintro e w2 ⟨rfl, hc⟩
 replace H := Lib.hid (H.out.chg hc (by simp))
 replace C := Lib.hid (C.out.trans hc)
 clear hc z0 z1; go_wp2_with fail
 refine (push_any w2 c (n, s, s) A xs H.out HN.out HB.out).mono ?_
 rintro e w3 ⟨A3, c3, rfl, ho, ha, hs⟩
 have HO := Lib.hid ho
 have HA : Hid (A3 = A ∨ ∀ a, A3 = some a → sz ≤ a.block) := Lib.hid (ha.imp id (fun q a e => by have := q a e; have := C.out.size; rw [SZ.out] at this; omega))
 have HS : Hid (∀ S : List Nat, (∀ a, A = some a → a.block ∈ S) → Chg S w w3) := Lib.hid (fun S q => (C.out.mono (S' := S) (by simp)).trans (hs S q))
 clear ho ha hs; go_wp2; go_ret
 exact ⟨A3, c3, rfl, HO.out, HA.out, HS.out⟩
set_option maxRecDepth 100000 in
set_option maxHeartbeats 4000000 in
theorem foldof_any (w : World) (A : Option Addr) (c : Nat) (l : List (Int × Int)) (h : RdK dotTy w A l.length l) (hn : l.length ≤ 100000) (hf : fineL l = true) :
  Calls Tryz.prog 91 #[.slice A l.length c, .slice none 0 0, .func (.func 93) #[] #[]] w fun e w' => ∃ A' c', e = .returned (.slice A' ((l.map aloneP).foldl pushP []).length c') ∧ OwnK spanTy w' A' c' ((l.map aloneP).foldl pushP []) ∧ (∀ a, A' = some a → w.heap.size ≤ a.block) ∧ Chg [] w w' := by
 have H := Lib.hid h
 have HN := Lib.hid hn
 have HF := Lib.hid hf
 clear h hn hf
 go_enter Tryz.func91, Tryz.ntmps91
 go_wp2
 go_loopw [1, 11] (fun v1 v11 wr => ∃ (k : Nat) (A' : Option Addr) (d' : Nat), k ≤ l.length ∧ v11 = .int .i64 k ∧ v1 = .slice A' (((l.take k).map aloneP).foldl pushP []).length d' ∧ Hid (OwnK spanTy wr A' d' (((l.take k).map aloneP).foldl pushP [])) ∧ Hid (∀ a, A' = some a → w.heap.size ≤ a.block) ∧ Hid (Chg [] w wr)) (fun _ v11 _ => l.length - (RowKit.intOf v11).toNat)
 case atStart => exact ⟨0, none, 0, Nat.zero_le _, rfl, rfl, OwnK.none_ _, Lib.hid (by simp), Chg.refl _ _⟩
 case round =>
  obtain ⟨k, A1, d1, hk, rfl, rfl, RO, RN, HI⟩ := hrel
  generalize wr = w4 at *
  clear wr
  by_cases hlt : k < l.length
  ·
   obtain ⟨x, hx⟩ : ∃ x, l[k]? = some x := ⟨_, List.getElem?_eq_getElem hlt⟩
   obtain ⟨g, o, eA, _⟩ := H.out.line (by omega)
   subst eA
   obtain ⟨q0, q1⟩ := dotCells (H.out.chg HI.out (by simp)) hx
   have i0 : (0 : Int) ≤ (k : Int) := by omega
   have i1 : (k : Int) < (l.length : Int) := by omega
   have i3 : IntKind.i64.wrap ((k : Int) + 1) = (k : Int) + 1 := IntWalk.i64_in _ (by have := HN.out; omega)
   have FS : Hid (((l.take (k + 1)).map aloneP).foldl pushP [] = pushP (((l.take k).map aloneP).foldl pushP []) (x.1, x.2, x.2)) := Lib.hid (by rw [alone_take hx, List.foldl_append]; rfl)
   have PR := Lib.hid (fold_props ((l.take k).map aloneP) [] (by simp) (fun y hy => by
    obtain ⟨d, hd, rfl⟩ := List.mem_map.1 hy
    exact alone_B3 HF.out _ (List.mem_map.2 ⟨d, List.mem_of_mem_take hd, rfl⟩)))
   have LK : Hid (((l.take k).map aloneP).length ≤ 100000) := Lib.hid (by have := HN.out; rw [List.length_map, List.length_take]; omega)
   generalize ((l.take k).map aloneP).foldl pushP [] = out at *
   obtain ⟨w5, hw5, c5, b5⟩ := news1 w4 (.cells #[.int .i64 x.1, .int .i64 x.2] 24)
   have W5 := Lib.hid hw5
   have B5 := Lib.hid b5
   replace RO := Lib.hid (RO.out.chg c5 (by simp))
   replace HI := Lib.hid (HI.out.trans c5)
   clear hw5 c5 hx b5
   go_upto_region 4 with fail
   rw [← W5.out]
   generalize w4.heap.size = g4 at *
   have y0 := cell_of B5.out 0
   have y1 := cell_of B5.out 1
   simp only [List.getElem?_toArray, List.getElem?_cons_succ, List.getElem?_cons_zero] at y0 y1
   go_wp2_with fail
   refine (of2_any w5 A1 d1 out x.1 x.2 RO.out (by have := PR.out.2; have := LK.out; simp at *; omega) PR.out.1).mono ?_
   rintro e w6 ⟨A6, c6, rfl, ho, ha, hs⟩
   have O6 := Lib.hid ho
   have N6 : Hid (∀ a, A6 = some a → w.heap.size ≤ a.block) := Lib.hid (fun a e => by
    rcases ha with rfl | q
    ·
     exact RN.out a e
    ·
     exact Nat.le_trans HI.out.size (q a e))
   have C6 : Hid (Chg [] w w6) := Lib.hid (HI.out.trans' (hs (blkOf A1) (fun a e => mem_blkOf e)) (fun i hi => by
    obtain ⟨u, hu, rfl⟩ := of_blkOf hi
    exact .inr (RN.out u hu)))
   clear ho ha hs q0 q1 y0 y1; go_wp2; go_round
   case rel => exact ⟨k + 1, A6, c6, by omega, by go_num, by rw [FS.out], by rw [FS.out]; exact O6, N6, C6⟩
   case measure => simp [RowKit.intOf]; omega
  ·
   obtain rfl : k = l.length := by omega
   rw [List.take_length] at RO ⊢
   have i1 : ¬ (l.length : Int) < (l.length : Int) := by omega
   go_wp2; go_ret
   exact ⟨A1, d1, rfl, RO.out, RN.out, HI.out⟩
set_option maxRecDepth 100000 in
set_option maxHeartbeats 4000000 in
theorem paof_any (w : World) (A : Option Addr) (c : Nat) (l : List (Int × Int)) (h : RdK dotTy w A l.length l) (hn : l.length ≤ 100000) :
  Calls Tryz.prog 41 #[.slice A l.length c] w fun e w' => ∃ A' c', e = .returned (.tuple #[.slice A' (ofE l).2.length c', .int .i64 (ofE l).1]) ∧ OwnK spanTy w' A' c' (ofE l).2 ∧ (∀ a, A' = some a → w.heap.size ≤ a.block) ∧ Chg [] w w' := by
 have H := Lib.hid h
 have HN := Lib.hid hn
 clear h hn
 rcases hf : fineL l with _ | _
 ·
  have e1 : ofE l = (2, []) := by unfold ofE; rw [hf]; rfl
  rw [e1]
  go_enter Tryz.func41, Tryz.ntmps41
  go_wp2_with fail
  refine (containsdot_any w A c l H.out (by have := HN.out; omega)).mono ?_
  rintro e w2 ⟨rfl, hc⟩
  rw [hf]
  have C := Lib.hid hc
  clear hc; go_wp2; go_ret2
  exact ⟨none, 0, rfl, OwnK.none_ _, by simp, C.out⟩
 ·
  have e1 : ofE l = boundP (tidyS (l.map aloneP)) := by unfold ofE; rw [if_pos hf]
  have ss := sortD_strict l
  have e2 : ((sortD l).map aloneP).foldl pushP [] = tidyS (l.map aloneP) := of_sorted ss.2 (ss.1.imp (fun {x y} q => by unfold LtP LtD at q; exact q))
  have FS : Hid (fineL (sortD l) = true) := Lib.hid (fineL_iff.2 (fun d hd => fineL_iff.1 hf d ((ss.2 d).1 hd)))
  have SL : Hid ((sortD l).length ≤ 100000) := Lib.hid (by
   have a := (insAll_props l).2.2
   rw [insAll_sortD] at a
   have := HN.out
   omega)
  rw [e1, ← e2]
  clear e1 e2 ss
  generalize hRR : boundP (((sortD l).map aloneP).foldl pushP []) = RR
  have HRR := Lib.hid hRR
  clear hRR
  go_enter Tryz.func41, Tryz.ntmps41
  go_wp2_with fail
  refine (containsdot_any w A c l H.out (by have := HN.out; omega)).mono ?_
  rintro e w2 ⟨rfl, hc⟩
  rw [hf]
  have C := Lib.hid hc
  clear hc hf; go_wp2_with fail
  refine (dsort_any w2 A l.length c l (H.out.chg C.out (by simp)) (by have := HN.out; omega)).mono ?_
  rintro e w3 ⟨A3, c3, rfl, ho, ha, hc⟩
  have O3 := Lib.hid ho
  replace C := Lib.hid (C.out.trans hc)
  clear ho ha hc
  generalize sortD l = m at *
  go_wp2_with fail
  refine (foldof_any w3 A3 c3 m O3.out.reads SL.out FS.out).mono ?_
  rintro e w4 ⟨A4, c4, rfl, ho, ha, hc⟩
  have O4 := Lib.hid ho
  have N4 : Hid (∀ a, A4 = some a → w.heap.size ≤ a.block) := Lib.hid (fun a e => Nat.le_trans C.out.size (ha a e))
  replace C := Lib.hid (C.out.trans hc)
  clear ho ha hc
  generalize (m.map aloneP).foldl pushP [] = out at *
  by_cases hb : out.length ≤ 4000
  ·
   obtain rfl : RR = (0, out) := by rw [← HRR.out]; exact bound_le hb
   go_wp2_with fail
   refine (bounded_few w4 A4 out.length c4 hb).mono ?_
   rintro e w5 ⟨rfl, hc⟩
   have O5 := Lib.hid (O4.out.chg hc (by simp))
   replace C := Lib.hid (C.out.trans hc)
   clear hc; go_wp2; go_ret2
   exact ⟨A4, c4, rfl, O5.out, N4.out, C.out⟩
  ·
   obtain rfl : RR = (8, []) := by rw [← HRR.out]; unfold boundP; rw [if_pos (by omega)]
   go_wp2_with fail
   refine (bounded_many w4 A4 out.length c4 (by omega)).mono ?_
   rintro e w5 ⟨rfl, hc⟩
   replace C := Lib.hid (C.out.trans hc)
   clear hc; go_wp2; go_ret2
   exact ⟨none, 0, rfl, OwnK.none_ _, by simp, C.out⟩
end
section
open Go.RowKit Go.Lib


set_option maxRecDepth 100000 in
set_option maxHeartbeats 4000000 in
theorem stshelf_any (w : World) (A : Option Addr) (c : Nat) (xs : List EvT) (es : List EvP) (p : List UInt8) (h : RdK evTy w A xs.length xs) (hx : EvsR w xs es) (hn : xs.length ≤ 100000)  (hs : ∀ e ∈ es, EvSm e ∧ e.q.length ≤ 100000) :
  Calls Tryz.prog 21 #[.slice A xs.length c, .string (strOf p)] w fun r w' => ∃ (A' : Option Addr) (c' : Nat) (zs : List EvT), r = .returned (.slice A' zs.length c') ∧ EsF w' w.heap.size w'.heap.size A' c' zs (es.filter (fun e => decide (e.p = p))) ∧ Chg [] w w' := by
 obtain ⟨w1, hw1, c1, b1⟩ := news1 w (.cells #[.string (strOf p)] 9)
 have W1 := Lib.hid hw1
 have C1 := Lib.hid c1
 have TH := Lib.hid (stthose_any w1 A c xs es 61 #[.pointer (some ⟨w.heap.size, 0, none⟩)] (fun e => decide (e.p = p)) (h.chg c1 (by simp)) (hx.chg c1) hn (fun e he => ⟨(hs e he).1.2.1, (hs e he).2⟩) (enters_of Tryz.func61 (by kernel_rfl) rfl) (fun w' hc i x e ex ee => stshelf1_any w' w.heap.size p x e (hc.at_ b1 (by simp)) (hx.2 i x e ex ee).p))
 clear hw1 c1 b1 h hx hn hs
 go_enter Tryz.func21, Tryz.ntmps21
 go_upto_region 1 with fail
 rw [← W1.out]
 obtain ⟨g1, hg1⟩ : ∃ g, w.heap.size = g := ⟨_, rfl⟩
 rw [hg1] at TH ⊢
 clear W1; go_wp2_with fail
 refine TH.out.mono ?_
 rintro r w2 ⟨A2, c2, zs, rfl, hl, he, hc⟩
 have P := Lib.hid (And.intro (he.low C1.out.size) (C1.out.trans hc))
 clear hl he hc TH; go_wp2; go_ret
 exact ⟨A2, c2, zs, rfl, P.out.1, P.out.2⟩
set_option maxRecDepth 100000 in
set_option maxHeartbeats 4000000 in
theorem stnear_any (w : World) (A : Option Addr) (c : Nat) (xs : List EvT) (es : List EvP) (p : List UInt8) (h : RdK evTy w A xs.length xs) (hx : EvsR w xs es) (hn : xs.length ≤ 100000) (hp : p.length ≤ 10000000) (hs : ∀ e ∈ es, EvSm e ∧ e.q.length ≤ 100000) :
  Calls Tryz.prog 22 #[.slice A xs.length c, .string (strOf p)] w fun r w' => ∃ (A' : Option Addr) (c' : Nat) (zs : List EvT), r = .returned (.slice A' zs.length c') ∧ EsF w' w.heap.size w'.heap.size A' c' zs (es.filter (fun e => nearL e.p p)) ∧ Chg [] w w' := by
 obtain ⟨w1, hw1, c1, b1⟩ := news1 w (.cells #[.string (strOf p)] 9)
 have W1 := Lib.hid hw1
 have C1 := Lib.hid c1
 have TH := Lib.hid (stthose_any w1 A c xs es 62 #[.pointer (some ⟨w.heap.size, 0, none⟩)] (fun e => nearL e.p p) (h.chg c1 (by simp)) (hx.chg c1) hn (fun e he => ⟨(hs e he).1.2.1, (hs e he).2⟩) (enters_of Tryz.func62 (by kernel_rfl) rfl) (fun w' hc i x e ex ee => stnear1_any w' w.heap.size p x e (hc.at_ b1 (by simp)) (hx.2 i x e ex ee).p ⟨by have := (hs e (List.mem_of_getElem? ee)).1.1; omega, by omega⟩))
 clear hw1 c1 b1 h hx hn hs
 go_enter Tryz.func22, Tryz.ntmps22
 go_upto_region 1 with fail
 rw [← W1.out]
 obtain ⟨g1, hg1⟩ : ∃ g, w.heap.size = g := ⟨_, rfl⟩
 rw [hg1] at TH ⊢
 clear W1; go_wp2_with fail
 refine TH.out.mono ?_
 rintro r w2 ⟨A2, c2, zs, rfl, hl, he, hc⟩
 have P := Lib.hid (And.intro (he.low C1.out.size) (C1.out.trans hc))
 clear hl he hc TH; go_wp2; go_ret
 exact ⟨A2, c2, zs, rfl, P.out.1, P.out.2⟩
set_option maxRecDepth 100000 in
set_option maxHeartbeats 4000000 in
theorem stmissing_any (w : World) (A : Option Addr) (c : Nat) (xs : List EvT) (es : List EvP) (K : Option Addr) (kc : Nat) (ks : List Sp) (h : RdK evTy w A xs.length xs) (hx : EvsR w xs es) (hn : xs.length ≤ 100000) (hk : RdK spanTy w K ks.length ks) (hkn : ks.length ≤ 140737488351232) (hs : ∀ e ∈ es, EvSm e ∧ e.q.length ≤ 100000) :
  Calls Tryz.prog 23 #[.slice A xs.length c, .slice K ks.length kc] w fun r w' => ∃ (A' : Option Addr) (c' : Nat) (zs : List EvT), r = .returned (.slice A' zs.length c') ∧ EsF w' w.heap.size w'.heap.size A' c' zs (es.filter (fun e => !hasE ks e.n e.s)) ∧ Chg [] w w' := by
 obtain ⟨w1, hw1, c1, b1⟩ := news1 w (.cells #[.slice K ks.length kc] 28)
 have W1 := Lib.hid hw1
 have C1 := Lib.hid c1
 have TH := Lib.hid (stthose_any w1 A c xs es 64 #[.pointer (some ⟨w.heap.size, 0, none⟩)] (fun e => !hasE ks e.n e.s) (h.chg c1 (by simp)) (hx.chg c1) hn (fun e he => ⟨(hs e he).1.2.1, (hs e he).2⟩) (enters_of Tryz.func64 (by kernel_rfl) rfl) (fun w' hc i x e ex ee => stmissing1_any w' w.heap.size K kc ks x e (hc.at_ b1 (by simp)) (hk.chg (c1.trans hc) (by simp)) hkn ⟨(hx.2 i x e ex ee).n, (hx.2 i x e ex ee).s⟩))
 clear hw1 c1 b1 h hx hn hs
 go_enter Tryz.func23, Tryz.ntmps23
 go_upto_region 1 with fail
 rw [← W1.out]
 obtain ⟨g1, hg1⟩ : ∃ g, w.heap.size = g := ⟨_, rfl⟩
 rw [hg1] at TH ⊢
 clear W1; go_wp2_with fail
 refine TH.out.mono ?_
 rintro r w2 ⟨A2, c2, zs, rfl, hl, he, hc⟩
 have P := Lib.hid (And.intro (he.low C1.out.size) (C1.out.trans hc))
 clear hl he hc TH; go_wp2; go_ret
 exact ⟨A2, c2, zs, rfl, P.out.1, P.out.2⟩

theorem RowTy.run_mk0 {α : Type} (R : RowTy α) (n : Nat) (h : n ≤ 1000000) (w : World) : (Instr.makeSlice R.TS (.int .i64 0) (.int .i64 (n : Int))).run Tryz.prog w = .ok (.slice (some ⟨w.heap.size, 0, none⟩) 0 n) (w.alloc (.cells (R.flat (List.replicate n R.z)).toArray R.T)) := by
 have hinf := R.info
 obtain ⟨i0, hi, hm⟩ := Option.map_eq_some_iff.1 hinf
 have hz : i0.zero = some R.zv := congrArg Prod.fst hm
 have hs : i0.size = R.k := congrArg (fun p => p.2.1) hm
 have hb : i0.bytes = R.bytes := congrArg (fun p => p.2.2) hm
 have hr := run_make (P := Tryz.prog) w R.TS R.T i0 R.zv R.under hi hz .i64 .i64 0 n (by omega) (by omega) (by rw [hb]; have := R.bpos; have : (R.bytes : Int) * (n : Int) ≤ 200 * (n : Int) := Int.mul_le_mul_of_nonneg_right (by omega) (by omega); omega) (by omega)
 rw [hr, hs, Int.toNat_natCast]
 have hk : R.zv.cells.size = R.k := by rw [← Array.length_toList, R.zc, R.klen]
 have e : madeCells R.zv.cells (n * R.k) = (R.flat (List.replicate n R.z)).toArray := by
  rw [← R.zeros]
  unfold madeCells Builtin.zeroCells
  simp [hk]
 rw [e]
 rfl
def dotsE (es : List EvP) : List (Int × Int) := es.map (fun e => (e.n, e.s))
def knownE (es : List EvP) : Int × List Sp := if StOk es then ((ofE (dotsE es)).1, (ofE (dotsE es)).2) else (2, [])
set_option maxRecDepth 100000 in
set_option maxHeartbeats 8000000 in
theorem stknownf_any (w : World) (A : Option Addr) (c : Nat) (xs : List EvT) (es : List EvP) (h : RdK evTy w A xs.length xs) (hc : xs.length ≤ c) (ho : xs = [] ∨ ∀ a, A = some a → a.block < w.heap.size) (hx : EvsR w xs es) (hn : xs.length ≤ 100000) (hs : ∀ e ∈ es, EvSm e) :
  Calls Tryz.prog 30 #[.slice A xs.length c] w fun r w' => ∃ (A' : Option Addr) (c' : Nat), r = .returned (.tuple #[.slice A' (knownE es).2.length c', .int .i64 (knownE es).1]) ∧ OwnK spanTy w' A' c' (knownE es).2 ∧ Chg [] w w' := by
 obtain ⟨R, hR⟩ : ∃ R, knownE es = R := ⟨_, rfl⟩
 rw [hR]
 have HR := Lib.hid hR
 have CK := Lib.hid (stcheck_any w A c xs es h hc ho hx hn hs)
 have HA := Lib.hid h
 have HX := Lib.hid hx
 have HN := Lib.hid hn
 clear h hc ho hx hn hs hR
 have MK := fun W => dotTy.run_mk0 xs.length (by have := HN.out; omega) W
 go_enter Tryz.func30, Tryz.ntmps30
 go_wp2_with fail
 refine CK.out.mono ?_
 rintro r w1 ⟨rfl, hc⟩
 have C1 := Lib.hid hc
 clear hc CK
 rcases stE_two es with e1 | e1
 rotate_left
 ·
  have ER : R = (2, []) := by
   rw [← HR.out]
   unfold knownE
   rw [if_neg (fun q => by rw [stE_zero.2 q] at e1; cases e1)]
  subst ER
  rw [e1]
  clear e1 HR MK; go_wp2; go_ret2
  exact ⟨none, 0, rfl, OwnK.none_ _, C1.out⟩
 have ER : Hid (R = ofE (dotsE es)) := Lib.hid (by rw [← HR.out]; unfold knownE; rw [if_pos (stE_zero.1 e1)])
 rw [e1]
 clear e1 HR
 obtain ⟨w2, hw2, c2, b2⟩ := news1 w1 (.cells (dotTy.flat (List.replicate xs.length dotTy.z)).toArray 24)
 have W2 := Lib.hid hw2
 have O2 : Hid (OwnK dotTy w2 (some ⟨w1.heap.size, 0, none⟩) xs.length []) := Lib.hid (OwnK.of (full := List.replicate xs.length dotTy.z) b2 (Nat.zero_le _) (by have := HN.out; unfold maxLen; omega) (by simp) (by simp))
 have C2 := Lib.hid (C1.out.trans c2)
 have MK1 : (Instr.makeSlice 64 (.int .i64 0) (.int .i64 (xs.length : Int))).run Tryz.prog w1 = .ok (.slice (some ⟨w1.heap.size, 0, none⟩) 0 xs.length) (w1.alloc (.cells (dotTy.flat (List.replicate xs.length dotTy.z)).toArray 24)) := MK w1
 rw [← hw2] at MK1
 clear hw2 c2 b2 MK; go_wp2_with fail
 go_loopw [5, 18] (fun v5 v18 wr => ∃ (k n : Nat) (A1 : Option Addr) (d1 : Nat), k ≤ xs.length ∧ v18 = .int .i64 (k : Int) ∧ v5 = .slice A1 n d1 ∧ Hid ((dotsE (es.take k)).length = n) ∧ Hid (OwnK dotTy wr A1 d1 (dotsE (es.take k))) ∧ Hid (∀ a, A1 = some a → w.heap.size ≤ a.block) ∧ Hid (Chg [] w wr)) (fun _ v18 _ => xs.length - (RowKit.intOf v18).toNat)
 case atStart => exact ⟨0, 0, _, _, Nat.zero_le _, rfl, rfl, Lib.hid rfl, O2, Lib.hid (fun a ha => by cases ha; exact C1.out.size), C2⟩
 case round =>
  obtain ⟨k, n, A1, d1, hk, rfl, rfl, HL, OD, NA, PC⟩ := hrel
  have j0 : (0 : Int) ≤ (k : Int) := by omega
  clear MK1
  by_cases hlt : k < xs.length
  ·
   have j1 : (k : Int) < (xs.length : Int) := by omega
   have j3 : IntKind.i64.wrap ((k : Int) + 1) = (k : Int) + 1 := IntWalk.i64_in _ (by have := HN.out; omega)
   obtain ⟨g3, o3, eA, _⟩ := HA.out.line (by omega)
   subst eA
   obtain ⟨x, e, ex, ee, rx⟩ := HX.out.at_ hlt
   obtain ⟨z0, z1, z2, z3, z4, z5, z6⟩ := evCells (HA.out.chg PC.out (by simp)) ex
   have DN : Hid (dotsE (es.take (k + 1)) = dotsE (es.take k) ++ [(x.n, x.s)]) := Lib.hid (by unfold dotsE; rw [List.take_add_one, ee, rx.n, rx.s]; simp)
   clear ex ee rx
   obtain ⟨w5, hw5, c5, b5⟩ := news1 wr (.cells #[.int .i64 x.n, .int .i64 x.s, .string x.p, .int .i64 x.k, .int .i64 x.m, .slice x.A x.l x.c, .slice x.B x.bl x.bc] 30)
   have W5 := Lib.hid hw5
   have y0 := cell_of b5 0
   have y1 := cell_of b5 1
   simp only [List.getElem?_toArray, List.getElem?_cons_succ, List.getElem?_cons_zero] at y0 y1
   obtain ⟨w6, hw6, c6, b6⟩ := news1 w5 (.cells #[.int .i64 x.n, .int .i64 x.s] 24)
   have W6 := Lib.hid hw6
   have RX : Hid (RdK dotTy w6 (some ⟨w5.heap.size, 0, none⟩) 1 [(x.n, x.s)]) := Lib.hid ⟨rfl, fun j v hj => ⟨_, rfl, by rw [add_zero_lit, cell_of b6 j]; simpa [RowTy.flat, dotTy] using hj⟩⟩
   have OD6 := Lib.hid (OD.out.chg (c5.trans c6) (by simp))
   have C6 := Lib.hid (PC.out.trans (c5.trans c6))
   have LN : Hid ((n + 1) * 400 ≤ 140737488355327) := Lib.hid (by have := HL.out; unfold dotsE at this; rw [List.length_map, List.length_take] at this; have := HN.out; omega)
   clear hw5 c5 b5 hw6 c6 b6 OD
   go_upto_region 8 with fail
   rw [← W5.out]
   generalize wr.heap.size = g5 at *
   clear W5 z0 z1 z2 z3 z4 z5 z6
   go_wp2_with (at_builtin; rw [← W6.out]; refine wpList_appK (R := dotTy) rfl (.tmp 22) (.tmp 25) rfl rfl OD6.out HL.out rfl RX.out LN.out ?_; intro A3 c3 w3 o3 g3 e3)
   have HL1 : Hid ((dotsE (es.take (k + 1))).length = n + 1) := Lib.hid (by rw [DN.out, List.length_append, HL.out]; rfl)
   have O3 : Hid (OwnK dotTy w3 A3 c3 (dotsE (es.take (k + 1)))) := Lib.hid (by rw [DN.out]; exact o3)
   have C3 := Lib.hid (C6.out.grown g3 (fun i hi => by
    rcases A1 with _ | a
    ·
     simp at hi
    ·
     simp at hi; subst hi; exact .inr (NA.out _ rfl)))
   have NA3 : Hid (∀ a, A3 = some a → w.heap.size ≤ a.block) := Lib.hid (fun a ha => by
    rcases e3 with e | e
    ·
     exact NA.out a (by rw [← e]; exact ha)
    ·
     rw [e] at ha; cases ha; exact C6.out.size)
   clear o3 g3 e3 y0 y1 W6 RX OD6; go_wp2; go_round
   case rel => exact ⟨k + 1, n + 1, A3, c3, by omega, by go_num, by first | rfl | go_num, HL1, O3, NA3, C3⟩
   case measure => simp [RowKit.intOf]; omega
  ·
   obtain rfl : k = xs.length := by omega
   have j1 : ¬ (xs.length : Int) < (xs.length : Int) := by omega
   have e1 : es.take xs.length = es := by rw [HX.out.1, List.take_length]
   rw [e1] at HL OD
   clear e1
   have LD : Hid ((dotsE es).length ≤ 100000) := Lib.hid (by unfold dotsE; rw [List.length_map, ← HX.out.1]; exact HN.out)
   have OF := Lib.hid (paof_any wr A1 d1 (dotsE es) OD.out.reads LD.out)
   rw [HL.out] at OF
   go_wp2_with fail
   refine OF.out.mono ?_
   rintro r w5 ⟨A5, c5, rfl, ho, hA, hc⟩
   have ER2 := ER.out
   subst ER2
   have P5 := Lib.hid (And.intro ho (PC.out.trans hc))
   clear ho hA hc OF; go_wp2; go_ret2
   exact ⟨A5, c5, rfl, P5.out.1, P5.out.2⟩
end
section
open Go.RowKit Go.Lib


def u64Ty : RowTy Nat where
 enc := fun x => [.int .u64 (x : Int)]
 k := 1
 T := 52
 TS := 89
 z := 0
 zv := .int .u64 0
 bytes := 8
 klen := fun _ => rfl
 one := by intro x v hv; simp at hv; rcases hv with rfl; rfl
 zc := rfl
 kpos := by decide
 bpos := by decide
 under := by kernel_rfl
 info := by kernel_rfl
theorem u64s_row {w : World} {A : Option Addr} {us : List Nat} (h : RdK u64Ty w A us.length us) (hr : ∀ u ∈ us, u < 18446744073709551616) : U64s w A us.length us := by
 refine ⟨rfl, fun j u hj => ?_, hr⟩
 have hlt : j < us.length := (List.getElem?_eq_some_iff.1 hj).1
 obtain ⟨g, o, e, _⟩ := h.line (by omega)
 subst e
 refine ⟨_, rfl, ?_⟩
 have := h.at_ j 0 u _ hj rfl
 rwa [show u64Ty.k = 1 from rfl, Nat.mul_one, Nat.add_zero, ← add_lit] at this
theorem bytesEv_le (e : EvP) : (bytesEv e).1.length ≤ 1048576 := by
 unfold bytesEv
 split
 ·
  show (outs _ _).length ≤ _
  unfold outs
  split
  ·
   exact (evW_len e).2.2.2.2
  ·
   simp
 ·
  simp
def sumsE (es : List EvP) : List Nat := es.map (fun e => fnvS (bytesEv e).1)
def printE (es : List EvP) : Nat × Int := if StOk es then (fnvS (mixB (sumsE es)), 0) else (0, 2)
theorem sumsE_lt (es : List EvP) : ∀ u ∈ sumsE es, u < 18446744073709551616 := by
 intro u hu
 obtain ⟨e, _, rfl⟩ := List.mem_map.1 hu
 exact fnv_lt _ _ fnv0_lt
set_option maxRecDepth 100000 in
set_option maxHeartbeats 8000000 in
theorem stprint_any (w : World) (A : Option Addr) (c : Nat) (xs : List EvT) (es : List EvP) (h : RdK evTy w A xs.length xs) (hc : xs.length ≤ c) (ho : xs = [] ∨ ∀ a, A = some a → a.block < w.heap.size) (hx : EvsR w xs es) (hn : xs.length ≤ 100000) (hs : ∀ e ∈ es, EvSm e) :
  Calls Tryz.prog 32 #[.slice A xs.length c] w fun r w' => r = .returned (.tuple #[.int .u64 ((printE es).1 : Int), .int .i64 (printE es).2]) ∧ Chg [] w w' := by
 obtain ⟨R, hR⟩ : ∃ R, printE es = R := ⟨_, rfl⟩
 rw [hR]
 have HR := Lib.hid hR
 have CK := Lib.hid (stcheck_any w A c xs es h hc ho hx hn hs)
 have HA := Lib.hid h
 have HX := Lib.hid hx
 have HN := Lib.hid hn
 have HS := Lib.hid hs
 clear h hc ho hx hn hs hR
 have MK := fun W => u64Ty.run_mk0 xs.length (by have := HN.out; omega) W
 go_enter Tryz.func32, Tryz.ntmps32
 go_wp2_with fail
 refine CK.out.mono ?_
 rintro r w1 ⟨rfl, hc⟩
 have C1 := Lib.hid hc
 clear hc CK
 rcases stE_two es with e1 | e1
 rotate_left
 ·
  have ER : R = (0, 2) := by
   rw [← HR.out]
   unfold printE
   rw [if_neg (fun q => by rw [stE_zero.2 q] at e1; cases e1)]
  subst ER
  rw [e1]
  clear e1 HR MK; go_wp2; go_ret2
  exact ⟨rfl, C1.out⟩
 have ER : Hid (R = (fnvS (mixB (sumsE es)), 0)) := Lib.hid (by rw [← HR.out]; unfold printE; rw [if_pos (stE_zero.1 e1)])
 rw [e1]
 clear e1 HR
 obtain ⟨w2, hw2, c2, b2⟩ := news1 w1 (.cells (u64Ty.flat (List.replicate xs.length u64Ty.z)).toArray 52)
 have W2 := Lib.hid hw2
 have O2 : Hid (OwnK u64Ty w2 (some ⟨w1.heap.size, 0, none⟩) xs.length []) := Lib.hid (OwnK.of (full := List.replicate xs.length u64Ty.z) b2 (Nat.zero_le _) (by have := HN.out; unfold maxLen; omega) (by simp) (by simp))
 have C2 := Lib.hid (C1.out.trans c2)
 have MK1 : (Instr.makeSlice 89 (.int .i64 0) (.int .i64 (xs.length : Int))).run Tryz.prog w1 = .ok (.slice (some ⟨w1.heap.size, 0, none⟩) 0 xs.length) (w1.alloc (.cells (u64Ty.flat (List.replicate xs.length u64Ty.z)).toArray 52)) := MK w1
 rw [← hw2] at MK1
 clear hw2 c2 b2 MK; go_wp2_with fail
 go_loopw [5, 20] (fun v5 v20 wr => ∃ (k n : Nat) (A1 : Option Addr) (d1 : Nat), k ≤ xs.length ∧ v20 = .int .i64 (k : Int) ∧ v5 = .slice A1 n d1 ∧ Hid ((sumsE (es.take k)).length = n) ∧ Hid (OwnK u64Ty wr A1 d1 (sumsE (es.take k))) ∧ Hid (∀ a, A1 = some a → w.heap.size ≤ a.block) ∧ Hid (Chg [] w wr)) (fun _ v20 _ => xs.length - (RowKit.intOf v20).toNat)
 case atStart => exact ⟨0, 0, _, _, Nat.zero_le _, rfl, rfl, Lib.hid rfl, O2, Lib.hid (fun a ha => by cases ha; exact C1.out.size), C2⟩
 case round =>
  obtain ⟨k, n, A1, d1, hk, rfl, rfl, HL, OD, NA, PC⟩ := hrel
  have j0 : (0 : Int) ≤ (k : Int) := by omega
  clear MK1
  by_cases hlt : k < xs.length
  ·
   have j1 : (k : Int) < (xs.length : Int) := by omega
   have j3 : IntKind.i64.wrap ((k : Int) + 1) = (k : Int) + 1 := IntWalk.i64_in _ (by have := HN.out; omega)
   obtain ⟨g3, o3, eA, _⟩ := HA.out.line (by omega)
   subst eA
   obtain ⟨x, e, ex, ee, rx⟩ := HX.out.at_ hlt
   obtain ⟨z0, z1, z2, z3, z4, z5, z6⟩ := evCells (HA.out.chg PC.out (by simp)) ex
   have SN : Hid (sumsE (es.take (k + 1)) = sumsE (es.take k) ++ [fnvS (bytesEv e).1]) := Lib.hid (by unfold sumsE; rw [List.take_add_one, ee]; simp)
   have SE : Hid (EvSm e) := Lib.hid (HS.out e (List.mem_of_getElem? ee))
   obtain ⟨w5, hw5, c5, b5⟩ := news1 wr (.cells #[.int .i64 x.n, .int .i64 x.s, .string x.p, .int .i64 x.k, .int .i64 x.m, .slice x.A x.l x.c, .slice x.B x.bl x.bc] 30)
   have W5 := Lib.hid hw5
   have y0 := cell_of b5 0
   have y1 := cell_of b5 1
   have y2 := cell_of b5 2
   have y3 := cell_of b5 3
   have y4 := cell_of b5 4
   have y5 := cell_of b5 5
   have y6 := cell_of b5 6
   simp only [List.getElem?_toArray, List.getElem?_cons_succ, List.getElem?_cons_zero] at y0 y1 y2 y3 y4 y5 y6
   have BY := Lib.hid (evbytes_any w5 x e (rx.chg (PC.out.trans c5)) SE.out)
   have OD5 := Lib.hid (OD.out.chg c5 (by simp))
   have C5 := Lib.hid (PC.out.trans c5)
   clear ex ee rx hw5 c5 b5 OD
   go_upto_region 8 with fail
   rw [← W5.out]
   generalize wr.heap.size = g5 at *
   clear W5 z0 z1 z2 z3 z4 z5 z6; go_wp2_with fail
   refine BY.out.mono ?_
   rintro r w6 ⟨A6, c6, rfl, hf⟩
   clear y0 y1 y2 y3 y4 y5 y6 BY
   obtain ⟨bn, hbn⟩ : ∃ n, (bytesEv e).1.length = n := ⟨_, rfl⟩
   obtain ⟨u, hu⟩ : ∃ u, fnvS (bytesEv e).1 = u := ⟨_, rfl⟩
   have SU := sum_any w6 A6 _ c6 (bytesEv e).1 hf.1.reads (by have := bytesEv_le e; omega)
   rw [hbn, hu] at SU
   rw [hu] at SN
   rw [hbn]
   have SU2 := Lib.hid SU
   have OD6 := Lib.hid (OD5.out.chg hf.2.2 (by simp))
   have C6 := Lib.hid (C5.out.trans hf.2.2)
   obtain ⟨w7, hw7, c7, b7⟩ := news1 w6 (.cells #[.int .u64 (u : Int)] 52)
   have W7 := Lib.hid hw7
   have RX : Hid (RdK u64Ty w7 (some ⟨w6.heap.size, 0, none⟩) 1 [u]) := Lib.hid ⟨rfl, fun j v hj => ⟨_, rfl, by rw [add_zero_lit, cell_of b7 j]; simpa [RowTy.flat, u64Ty] using hj⟩⟩
   have OD7 := Lib.hid (OD6.out.chg c7 (by simp))
   have C7 := Lib.hid (C6.out.trans c7)
   have LN : Hid ((n + 1) * 400 ≤ 140737488355327) := Lib.hid (by have := HL.out; unfold sumsE at this; rw [List.length_map, List.length_take] at this; have := HN.out; omega)
   clear hf SU hw7 c7 b7 OD5 OD6 C5 C6 hbn hu; go_wp2_with fail
   refine SU2.out.mono ?_
   rintro r w66 ⟨rfl, hww⟩
   subst hww; clear SU2
   go_wp2_with (at_builtin; rw [← W7.out]; refine wpList_appK (R := u64Ty) rfl (.tmp 29) (.tmp 32) rfl rfl OD7.out HL.out rfl RX.out LN.out ?_; intro A3 c3 w3 o3 g3 e3)
   have HL1 : Hid ((sumsE (es.take (k + 1))).length = n + 1) := Lib.hid (by rw [SN.out, List.length_append, HL.out]; rfl)
   have O3 : Hid (OwnK u64Ty w3 A3 c3 (sumsE (es.take (k + 1)))) := Lib.hid (by rw [SN.out]; exact o3)
   have C3 := Lib.hid (C7.out.grown g3 (fun i hi => by
    rcases A1 with _ | a
    ·
     simp at hi
    ·
     simp at hi; subst hi; exact .inr (NA.out _ rfl)))
   have NA3 : Hid (∀ a, A3 = some a → w.heap.size ≤ a.block) := Lib.hid (fun a ha => by
    rcases e3 with e | e
    ·
     exact NA.out a (by rw [← e]; exact ha)
    ·
     rw [e] at ha; cases ha; exact C7.out.size)
   clear o3 g3 e3 W7 RX OD7; go_wp2; go_round
   case rel => exact ⟨k + 1, n + 1, A3, c3, by omega, by go_num, by first | rfl | go_num, HL1, O3, NA3, C3⟩
   case measure => simp [RowKit.intOf]; omega
  ·
   obtain rfl : k = xs.length := by omega
   have j1 : ¬ (xs.length : Int) < (xs.length : Int) := by omega
   have e1 : es.take xs.length = es := by rw [HX.out.1, List.take_length]
   rw [e1] at HL OD
   clear e1
   have LD : Hid ((sumsE es).length ≤ 100000) := Lib.hid (by unfold sumsE; rw [List.length_map, ← HX.out.1]; exact HN.out)
   have OF := Lib.hid (mix_any wr A1 _ d1 (sumsE es) (u64s_row OD.out.reads (sumsE_lt es)) (by have := LD.out; omega))
   rw [HL.out] at OF
   go_wp2_with fail
   refine OF.out.mono ?_
   rintro r w5 ⟨rfl, hb⟩
   have ER2 := ER.out
   subst ER2
   have P5 := Lib.hid (PC.out.trans (below_chg8 hb))
   clear hb OF; go_wp2; go_ret2
   exact ⟨rfl, P5.out⟩
end
end Go.Proofs.YtomgjogkkoigbaaGreatDoor
