/- print.Parse. -/
import Derived.Test.YtphchggabcbfkaaDoorPawk
namespace Go.Proofs.YtphchggabcbfkaaDoor
open Go.RowKit Go.Shelf
set_option linter.unusedSimpArgs false
set_option linter.unusedVariables false
attribute [local go_sem] Oper.semAt_some

/-- A letter that is no digit. -/
def bad (c : UInt8) : Bool := decide (unhex c = 16)
/-- The first place of one; how many letters there are: there is none. -/
def badAt (xs : List UInt8) : Nat := xs.findIdx bad
theorem bad_yes (c : UInt8) (h : c.toNat < 48 ∨ (57 < c.toNat ∧ c.toNat < 97) ∨ 102 < c.toNat) : bad c = true := by
  unfold bad unhex
  rw [if_neg (by omega), if_neg (by omega)]
  rfl
theorem bad_no (c : UInt8) (h : (48 ≤ c.toNat ∧ c.toNat ≤ 57) ∨ (97 ≤ c.toNat ∧ c.toNat ≤ 102)) : bad c = false := by
  unfold bad unhex
  split <;> (try split) <;> simp <;> omega
set_option maxHeartbeats 1000000 in
theorem nodigit_any (w : World) (c : UInt8) : Calls Tryd.prog 31 #[.int .u8 (c.toNat : Int)] w fun e w' => e = .returned (.bool (bad c)) ∧ w = w' := by
  have hc := c.toNat_lt
  have hy := bad_yes c
  have hn := bad_no c
  have HY := Lib.hid hy
  have HN := Lib.hid hn
  clear hy hn
  generalize bad c = b at *
  generalize c.toNat = x at *
  refine (Decidable.em (x < 48)).elim (fun h1 => ?a) (fun h1 => (Decidable.em (x ≤ 57)).elim (fun h2 => ?b) (fun h2 => (Decidable.em (x < 97)).elim (fun h3 => ?c) (fun h3 => (Decidable.em (x ≤ 102)).elim (fun h4 => ?d) (fun h4 => ?e))))
  case a =>
    have := HY.out (by omega)
    subst this
    go_enter Tryd.func31, Tryd.ntmps31
    go_wp2
    go_ret
    refine ⟨?_, rfl⟩
    (try simp) <;> (try omega)
  case b =>
    have := HN.out (by omega)
    subst this
    go_enter Tryd.func31, Tryd.ntmps31
    go_wp2
    go_ret
    refine ⟨?_, rfl⟩
    (try simp) <;> (try omega)
  case c =>
    have := HY.out (by omega)
    subst this
    go_enter Tryd.func31, Tryd.ntmps31
    go_wp2
    go_ret
    refine ⟨?_, rfl⟩
    (try simp) <;> (try omega)
  case d =>
    have := HN.out (by omega)
    subst this
    go_enter Tryd.func31, Tryd.ntmps31
    go_wp2
    go_ret
    refine ⟨?_, rfl⟩
    (try simp) <;> (try omega)
  case e =>
    have := HY.out (by omega)
    subst this
    go_enter Tryd.func31, Tryd.ntmps31
    go_wp2
    go_ret
    refine ⟨?_, rfl⟩
    (try simp) <;> (try omega)
theorem or_low (n d : Nat) (h : d < 16) (hn : n * 16 < 18446744073709551616) : bits .or .u64 ((n : Int) * 16) (d : Int) = ((n * 16 + d : Nat) : Int) := by
  have := bits_or_u64_nat (n * 16) d hn (by omega)
  rw [Int.natCast_mul] at this
  rw [show (16 : Int) = ((16 : Nat) : Int) by rfl, this]
  have e := Nat.two_pow_add_eq_or_of_lt (i := 4) (show d < 2 ^ 4 by omega) n
  rw [show (2 : Nat) ^ 4 * n = n * 16 by omega] at e
  rw [e]
set_option maxHeartbeats 1000000 in
theorem withdigit_any (w : World) (n : Nat) (c : UInt8) (hn : n * 16 < 18446744073709551616) (hb : unhex c < 16) : Calls Tryd.prog 34 #[.int .u64 (n : Int), .int .u8 (c.toNat : Int)] w fun e w' => e = .returned (.int .u64 ((n * 16 + unhex c : Nat) : Int)) ∧ w = w' := by
  have hc := c.toNat_lt
  have hor := or_low n (unhex c) hb hn
  have hu : (48 ≤ c.toNat ∧ c.toNat ≤ 57 ∧ unhex c = c.toNat - 48) ∨ (97 ≤ c.toNat ∧ c.toNat ≤ 102 ∧ unhex c = c.toNat - 87) := by
    unfold unhex at *
    split at hb
    · rename_i h; exact .inl ⟨h.1, h.2, by rw [if_pos h]⟩
    · split at hb
      · rename_i h1 h2; exact .inr ⟨h2.1, h2.2, by rw [if_neg h1, if_pos h2]⟩
      · omega
  generalize unhex c = d at *
  generalize c.toNat = x at *
  rcases hu with ⟨h1, h2, h3⟩ | ⟨h1, h2, h3⟩
  · subst h3
    have e1 : ((x - 48 : Nat) : Int) = (x : Int) - 48 := by omega
    rw [e1] at hor
    go_enter Tryd.func34, Tryd.ntmps34
    go_wp2
    go_ret
    exact ⟨congrArg (fun z => Ending.returned (.int .u64 z)) (by omega), rfl⟩
  · subst h3
    have e1 : ((x - 87 : Nat) : Int) = (x : Int) - 97 + 10 := by omega
    rw [e1] at hor
    go_enter Tryd.func34, Tryd.ntmps34
    go_wp2
    go_ret
    exact ⟨congrArg (fun z => Ending.returned (.int .u64 z)) (by omega), rfl⟩
theorem badAt_le (xs : List UInt8) : badAt xs ≤ xs.length := List.findIdx_le_length
theorem badAt_is (xs : List UInt8) (k : Nat) (hk : k < xs.length) (h : bad (xs.getD k 0) = true) (hj : ∀ j, j < k → bad (xs.getD j 0) = false) : badAt xs = k := by
  unfold badAt
  rw [List.findIdx_eq hk]
  refine ⟨by simpa [List.getD_eq_getElem?_getD, hk] using h, fun j hjk => ?_⟩
  have := hj j hjk
  have hl : j < xs.length := by omega
  simpa [List.getD_eq_getElem?_getD, hl] using this
theorem badAt_none (xs : List UInt8) (hj : ∀ j, j < xs.length → bad (xs.getD j 0) = false) : badAt xs = xs.length := by
  unfold badAt
  rw [List.findIdx_eq_length]
  intro x hx
  obtain ⟨j, hl, rfl⟩ := List.getElem_of_mem hx
  have := hj j hl
  simpa [List.getD_eq_getElem?_getD, hl] using this
theorem good_of (xs : List UInt8) (h : badAt xs = xs.length) : ∀ c ∈ xs, unhex c < 16 := by
  unfold badAt at h
  rw [List.findIdx_eq_length] at h
  intro c hc
  have := h c hc
  have hl := unhex_le c
  simp [bad] at this
  omega
set_option maxHeartbeats 1000000 in
theorem index_any (w : World) (A : Option Addr) (n c : Nat) (xs : List UInt8) (h : Bs w A n xs) (hn : n ≤ 140737488351232) :
    Calls Tryd.prog 30 #[.slice A n c, .func (.func 31) #[] #[]] w fun e w' => e = .returned (.int .i64 (if badAt xs < xs.length then (badAt xs : Int) else -1)) ∧ w = w' := by
  have hl := h.len
  subst hl
  have HB := Lib.hid h
  clear h
  obtain ⟨r, hr⟩ : ∃ r : Int, (if badAt xs < xs.length then (badAt xs : Int) else -1) = r := ⟨_, rfl⟩
  rw [hr]
  have HR := Lib.hid hr
  clear hr
  go_enter Tryd.func30, Tryd.ntmps30
  go_wp2
  go_loop [8] (fun i => ∃ k : Nat, k ≤ xs.length ∧ i = .int .i64 k ∧ ∀ j, j < k → bad (xs.getD j 0) = false) (fun i => xs.length - (intOf i).toNat)
  case atStart => exact ⟨0, by omega, rfl, fun j hj => by omega⟩
  case round =>
    obtain ⟨k, hk, rfl, hgood⟩ := hrel
    have HG := Lib.hid hgood
    clear hgood
    by_cases hlt : k < xs.length
    · obtain ⟨g, o, rfl, hc⟩ := HB.out.line (by omega)
      have hck := hc k hlt
      have HX : Hid (bad (xs.getD k 0) = bad (xs.getD k 0)) := Lib.hid rfl
      clear hc
      obtain ⟨x, hx⟩ : ∃ x, xs.getD k 0 = x := ⟨_, rfl⟩
      have HXx := Lib.hid hx
      rw [hx] at hck
      clear hx HX
      refine (Decidable.em (bad x = true)).elim (fun hb => ?isbad) (fun hb => ?isgood)
      case isbad =>
        go_wp2_with (go_at_call 31; refine (nodigit_any _ x).mono ?_; rintro e w1 ⟨rfl, rfl⟩)
        go_ret
        have := badAt_is xs k hlt (by rw [HXx.out]; exact hb) HG.out
        have e := HR.out
        rw [this, if_pos hlt] at e
        subst e
        exact ⟨rfl, rfl⟩
      case isgood =>
        have hb' : bad x = false := by simpa using hb
        clear hb
        go_wp2_with (go_at_call 31; refine (nodigit_any _ x).mono ?_; rintro e w1 ⟨rfl, rfl⟩)
        go_round
        case rel =>
          refine ⟨k + 1, by omega, by go_num, fun j hj => ?_⟩
          by_cases e : j = k
          · subst e; rw [HXx.out]; exact hb'
          · exact HG.out j (by omega)
        case measure => simp [intOf]; omega
    · go_wp2
      go_ret
      have hkl : k = xs.length := by omega
      have := badAt_none xs (fun j hj => HG.out j (by omega))
      have e := HR.out
      rw [this, if_neg (by omega)] at e
      subst e
      exact ⟨rfl, rfl⟩

/-! The letters, one after the other. -/
set_option maxHeartbeats 400000 in
theorem values_any (w : World) (A : Option Addr) (n c : Nat) : Calls Tryd.prog 33 #[.slice A n c] w fun e w' => e = .returned (.func (.func 39) #[] #[.pointer (some ⟨w.heap.size, 0, none⟩)]) ∧ w' = w.alloc (.cells #[.slice A n c] 22) := by
  go_enter Tryd.func33, Tryd.ntmps33
  go_wp2
  go_ret
  exact ⟨rfl, rfl⟩
set_option maxRecDepth 100000 in
set_option maxHeartbeats 2000000 in
theorem values1_gives (n : Nat) (l n₁ bx g o c : Nat) (xs : List UInt8) (hreach : xs.length ≤ 140737488351232)
    (J : List UInt8 → World → Prop) (W : World) (hb : bx < n₁) (hg : g < n₁)
    (hY : ∀ pre x W1, J pre W1 → (pre.length < xs.length ∧ x = xs.getD pre.length 0 ∧ pre = xs.take pre.length) → YieldAt Fence.wide n Tryd.prog l #[.int .u8 (x.toNat : Int)] W1 fun e W' => e = .returned (.bool true) ∧ J (pre ++ [x]) W' ∧ Below n₁ W1 W')
    (hBs : W.cell? ⟨bx, 0, none⟩ = some (.slice (some ⟨g, o, none⟩) xs.length c)) (hc : ∀ j, j < xs.length → W.cell? ⟨g, o + j, none⟩ = some (.int .u8 ((xs.getD j 0).toNat : Int))) (h0 : J [] W) :
    CallsIn Fence.wide (n + 1) Tryd.prog 39 #[.func (.yield l) #[] #[], .pointer (some ⟨bx, 0, none⟩)] W fun e W' => (∃ v, e = .returned v) ∧ ∃ ys : List UInt8, ys = xs ∧ J ys W' := by
  have h1 : 1 ≤ n + 1 := by omega
  have hro : Fence.wide.round = none := rfl
  refine callsIn_of_wp Tryd.func39 rfl trivial ?_ hro
  simp only [Tryd.ntmps39, List.size_toArray, List.length_cons, List.length_nil, Nat.reduceAdd, Nat.reduceSub, Array.replicate_succ, Array.replicate_zero, List.push_toArray, List.append_toArray, List.nil_append, List.cons_append]
  gi_wp2
  gi_loopw [7] (fun i wr => ∃ k : Nat, k ≤ xs.length ∧ i = .int .i64 k ∧ J (xs.take k) wr ∧ Below n₁ W wr) (fun i _ => xs.length - (intOf i).toNat)
  case atStart => exact ⟨0, Nat.zero_le _, rfl, h0, Below.refl _ _⟩
  case round =>
    obtain ⟨k, hk, rfl, hJs, hnx⟩ := hrel
    by_cases hlt : k < xs.length
    · have hcx := (hnx.cell (p := ⟨g, o + k, none⟩) hg).trans (hc k hlt)
      have hlen : (xs.take k).length = k := by simp; omega
      obtain ⟨fn, tmps, assign, body, hy, hR⟩ := hY (xs.take k) (xs.getD k 0) wr hJs ⟨by omega, by rw [hlen], by rw [hlen]⟩
      have hsn : xs.take k ++ [xs.getD k 0] = xs.take (k + 1) := by
        rw [List.take_succ_eq_append_getElem hlt]
        simp [List.getD_eq_getElem?_getD, hlt]
      rw [hsn] at hR
      have HS := Lib.hid hsn
      clear hsn
      generalize xs.getD k 0 = x at *
      gi_wp2
      refine hR.mono ?_
      rintro e W3 ⟨rfl, hJ3, hk3⟩
      gi_wp2
      go_roundw
      case rel => exact ⟨k + 1, by omega, by simp, hJ3, hnx.trans hk3⟩
      case measure => simp [intOf]; omega
    · obtain rfl : k = xs.length := by omega
      gi_wp2
      go_end0
      exact ⟨⟨_, rfl⟩, xs, rfl, by simpa using hJs⟩
set_option maxRecDepth 100000 in
set_option maxHeartbeats 2000000 in
theorem fold1_values (w : World) (bx : Nat) (g o c : Nat) (xs : List UInt8) (h : Bs w (some ⟨g, o, none⟩) 16 xs) (hx0 : xs.length = 16) (hgood : ∀ c ∈ xs, unhex c < 16) (hbx : w.cell? ⟨bx, 0, none⟩ = some (.slice (some ⟨g, o, none⟩) 16 c)) :
    Calls Tryd.prog 32 #[.func (.func 39) #[] #[.pointer (some ⟨bx, 0, none⟩)], .int .u64 0, .func (.func 34) #[] #[]] w fun e w' => e = .returned (.int .u64 (unhexs xs : Int)) ∧ Below w.heap.size w w' := by
  have hblt := lt_of_cell hbx
  obtain ⟨g', o', ha, hcs⟩ := h.line (by omega)
  cases ha
  have hg : g < w.heap.size := lt_of_cell (hcs 0 (by omega))
  have h1 : 1 ≤ 4 := by omega
  have hro : Fence.wide.round = none := rfl
  refine (callsIn_wide (n := 4)).1 ?_
  refine callsIn_of_wp_marks Tryd.func32 rfl trivial ?_ hro
  simp only [Tryd.ntmps32, List.size_toArray, List.length_cons, List.length_nil, Nat.reduceAdd, Nat.reduceSub, Array.replicate_succ, Array.replicate_zero, List.push_toArray, List.append_toArray, List.nil_append, List.cons_append]
  gi_wp2
  obtain ⟨V, hV, hcV, h4, h5⟩ := news2 w (.cells #[.int .u64 0] 23) (.cells #[.func (.func 34) #[] #[]] 57)
  rw [← hV]
  have hsV : V.heap.size = w.heap.size + 2 := by rw [hV]; simp
  have bV : Below w.heap.size w V := by rw [hV]; exact ((Below.refl _ w).alloc (Nat.le_refl _) _).alloc (by simp) _
  refine range_all (gf := 39) (lb := #[.pointer (some ⟨bx, 0, none⟩)]) rfl (enters_of Tryd.func39 (by kernel_rfl) rfl) (encs := fun x : UInt8 => #[.int .u8 (x.toNat : Int)]) (n₁ := w.heap.size) (by omega)
    (S := fun ys => ys = xs) (Ex := fun pre x _ => pre.length < xs.length ∧ x = xs.getD pre.length 0 ∧ pre = xs.take pre.length) ?seq (fun _ => rfl)
    (fun pre W => (W.heap[w.heap.size]? = some (.cells #[.int .u64 (unhexs pre : Int)] 23 (0, 0)) ∧ W.heap[w.heap.size + 1]? = some (.cells #[.func (.func 34) #[] #[]] 57 (0, 0))) ∧ Below w.heap.size w W)
    ?keep ⟨⟨h4, h5⟩, bV⟩ ?elem
    (fun x => { tmps := #[.func (.func 39) #[] #[.pointer (some ⟨bx, 0, none⟩)], .int .u64 0, .func (.func 34) #[] #[], undef, .pointer (some ⟨w.heap.size, 0, none⟩), .pointer (some ⟨w.heap.size + 1, 0, none⟩), .int .u64 0, .int .u8 (x.toNat : Int), .func (.func 39) #[] #[.pointer (some ⟨bx, 0, none⟩)], .int .u8 (x.toNat : Int), undef, undef, undef, undef, undef], defers := [] }) ?assign ?body ?done
  case seq =>
    intro l J W hW hJ hY h0
    have hB : W.cell? ⟨bx, 0, none⟩ = some (.slice (some ⟨g, o, none⟩) xs.length c) := by
      rw [hx0]
      exact (hW.cell (p := ⟨bx, 0, none⟩) (show bx < V.heap.size by omega)).trans ((bV.cell (p := ⟨bx, 0, none⟩) hblt).trans hbx)
    have hcs' : ∀ j, j < xs.length → W.cell? ⟨g, o + j, none⟩ = some (.int .u8 ((xs.getD j 0).toNat : Int)) := fun j hj =>
      (hW.cell (p := ⟨g, o + j, none⟩) (show g < V.heap.size by omega)).trans ((bV.cell (p := ⟨g, o + j, none⟩) hg).trans (hcs j hj))
    exact values1_gives 2 l w.heap.size bx g o c xs (by omega) J W hblt hg hY hB hcs' h0
  case keep =>
    rintro pre A' B' ⟨⟨e4, e5⟩, b⟩ hb
    exact ⟨⟨(hb.block _ (by omega)).trans e4, (hb.block _ (by omega)).trans e5⟩, b.trans ⟨hb.os, hb.tape, hb.output, hb.size, fun k hk => hb.block k (by omega)⟩⟩
  case elem =>
    rintro pre x W l o o' hl ho hx
    exact hx
  case assign =>
    intro l x W K hK
    gi_wp2
    exact hK
  case body =>
    rintro l pre x W ⟨⟨e4, e5⟩, b⟩ ⟨hx1, hx2, hx3⟩
    have c4 := cell_of e4 0
    have f4 := free_of e4 0
    have c5 := cell_of e5 0
    simp at c4 c5
    have hxg : unhex x < 16 := by
      apply hgood
      rw [hx2]
      have : pre.length < xs.length := hx1
      simp [List.getD_eq_getElem?_getD, this]
    have hlt : unhexs pre < 16 ^ pre.length := unhexs_lt pre (fun c hc => hgood c (by rw [hx3] at hc; exact List.mem_of_mem_take hc))
    have hlt2 : unhexs pre * 16 < 18446744073709551616 := by
      have : 16 ^ pre.length ≤ 16 ^ 15 := Nat.pow_le_pow_right (by omega) (by omega)
      omega
    have hstep : unhexs (pre ++ [x]) = unhexs pre * 16 + unhex x := unhexs_snoc pre x
    have HStep := Lib.hid hstep
    have HE4 := Lib.hid e4
    have HE5 := Lib.hid e5
    have HBl := Lib.hid b
    clear hstep hx1 hx2 hx3 e4 e5 b hlt
    gi_wp2_with (refine ⟨trivial, ?_⟩; gi_at_call 34; refine (CallsIn.inRound l (callsIn_wide.2 (withdigit_any _ (unhexs pre) x hlt2 hxg))).mono ?_; rintro e w1 ⟨rfl, rfl⟩)
    rw [HStep.out]
    refine ⟨KeepsOthers.setCell _ _ _, (Below.refl w.heap.size W).setCell (p := ⟨w.heap.size, 0, none⟩) (Nat.le_refl _) _, ⟨?_, ?_⟩, HBl.out.setCell (p := ⟨w.heap.size, 0, none⟩) (Nat.le_refl _) _⟩
    · rw [heap_setCell_same _ _ _ _ _ _ HE4.out]
      simp
    · rw [heap_setCell_other W ⟨w.heap.size, 0, none⟩ (w.heap.size + 1) _ (by simp)]
      exact HE5.out
  case done =>
    rintro D ys W hD rfl ⟨⟨e4, _⟩, hB⟩ hK
    have c4 := cell_of e4 0
    simp at c4
    gi_wp2
    refine ⟨by simp, .inl ⟨_, _, rfl, run_takeDeferred hK, ?_⟩⟩
    exact ⟨_, results_tmp rfl _ _ _, rfl, hB.trans (belowK_b (w := w) (Nat.le_refl _) W D _ _ (by omega) hK rfl rfl)⟩
end Go.Proofs.YtphchggabcbfkaaDoor
