/- path.Check: which texts are paths. -/
import Derived.Test.YtibdeiahmgkbhaaDoorPhseq
import Derived.Test.YtibdeiahmgkbhaaDoorPhpart
import Derived.Scope
namespace Go.Proofs.YtibdeiahmgkbhaaDoor
open Go.RowKit
set_option linter.unusedSimpArgs false
set_option linter.unusedVariables false
attribute [local go_sem] Oper.semAt_some
theorem wpIn_scope {P : Program} {n : Nat} {c : Code} {Q : Exit → Act → World → Prop} {a : Act} {w : World} (h : c.wpIn Fence.wide n P (Exit.noGoto Q) a w) : (Code.scope c).wpIn Fence.wide n P Q a w := wpIn_wide.2 (wp_scope_straight (wpIn_wide.1 h))
theorem below_others {W W' : World} (h : Below W.heap.size W W') : KeepsOthers W W' :=
  ⟨h.size, fun k o hk _ => (h.block k (Array.getElem?_eq_some_iff.1 hk).1).trans hk⟩
set_option maxHeartbeats 1000000 in
theorem splitSeq0_any (w : World) (l : List UInt8) : Calls Tryd.prog 58 #[.string (strOf l), .string ⟨#[47]⟩, .int .i64 0] w fun e w' =>
    e = .returned (.func (.func 72) #[] #[.pointer (some ⟨w.heap.size + 1, 0, none⟩), .pointer (some ⟨w.heap.size, 0, none⟩), .pointer (some ⟨w.heap.size + 2, 0, none⟩)]) ∧
    w' = ((w.alloc (.cells #[.string (strOf l)] 9)).alloc (.cells #[.string ⟨#[47]⟩] 9)).alloc (.cells #[.int .i64 0] 3) := by
  go_enter Tryd.func58, Tryd.ntmps58
  go_wp2
  go_ret
  exact ⟨by simp, rfl⟩
set_option maxHeartbeats 1000000 in
theorem splitSeq_any (w : World) (l : List UInt8) : Calls Tryd.prog 43 #[.string (strOf l), .string ⟨#[47]⟩] w fun e w' =>
    e = .returned (.func (.func 72) #[] #[.pointer (some ⟨w.heap.size + 1, 0, none⟩), .pointer (some ⟨w.heap.size, 0, none⟩), .pointer (some ⟨w.heap.size + 2, 0, none⟩)]) ∧
    w' = ((w.alloc (.cells #[.string (strOf l)] 9)).alloc (.cells #[.string ⟨#[47]⟩] 9)).alloc (.cells #[.int .i64 0] 3) := by
  go_enter Tryd.func43, Tryd.ntmps43
  go_wp2_with fail
  refine (splitSeq0_any _ l).mono ?_
  rintro e w1 ⟨rfl, rfl⟩
  go_wp2
  go_ret
  exact ⟨by simp, rfl⟩
theorem all_prefix {p : List UInt8 → Bool} {pre l : List (List UInt8)} {x : List UInt8} (h : (pre ++ [x]) <+: l) (hx : p x = false) : l.all p = false := by
  obtain ⟨t, rfl⟩ := h
  simp [hx]
theorem check_no1 {l : List UInt8} {pre : List (List UInt8)} {x : List UInt8} (h : (pre ++ [x]) <+: cutL l) (hx : partL 12 x = false) : checkL 6 12 l = false := by
  unfold checkL
  rw [all_prefix h hx, Bool.and_false]
theorem check_no2 {l : List UInt8} {pre : List (List UInt8)} {x : List UInt8} (h : (pre ++ [x]) <+: cutL l) (hx : 6 ≤ pre.length) : checkL 6 12 l = false := by
  unfold checkL
  have := h.length_le
  simp at this
  have : ¬ (cutL l).length ≤ 6 := by omega
  simp [this]
set_option maxRecDepth 100000 in
set_option maxHeartbeats 4000000 in
theorem phcheck_any (w : World) (l : List UInt8) (hlen : l.length ≤ 140737488351232) :
    Calls Tryd.prog 20 #[.string (strOf l)] w fun e w' => e = .returned (.int .i64 (if checkL 6 12 l then 0 else 2)) ∧ Below w.heap.size w w' := by
  have h1 : 1 ≤ 5 := by omega
  have hro : Fence.wide.round = none := rfl
  refine (callsIn_wide (n := 5)).1 ?_
  refine callsIn_of_wp_marks Tryd.func20 rfl trivial ?_ hro
  simp only [Tryd.ntmps20, List.size_toArray, List.length_cons, List.length_nil, Nat.reduceAdd, Nat.reduceSub, Array.replicate_succ, Array.replicate_zero, List.push_toArray, List.append_toArray, List.nil_append, List.cons_append]
  gi_wp2
  refine wpIn_scope ?_
  obtain ⟨w1, hw1, C1, b0, b1⟩ := news2 w (.cells #[.int .i64 0] 3) (.cells #[.int .i64 0] 26)
  gi_wp2
  refine wpIn_label ?_
  rw [← hw1]
  have hs1 : w1.heap.size = w.heap.size + 2 := by rw [hw1]; simp
  have bw1 : Below w.heap.size w w1 := by rw [hw1]; exact ((Below.refl _ w).alloc (Nat.le_refl _) _).alloc (by simp) _
  obtain ⟨V, hV, CV, v0, v1, v2⟩ := news3 w1 (.cells #[.string (strOf l)] 9) (.cells #[.string ⟨#[47]⟩] 9) (.cells #[.int .i64 0] 3)
  have hsV : V.heap.size = w1.heap.size + 3 := by rw [hV]; simp
  have bV : Below w1.heap.size w1 V := by rw [hV]; exact (((Below.refl _ w1).alloc (Nat.le_refl _) _).alloc (by simp) _).alloc (by simp; omega) _
  have b0' := (bV.block (w.heap.size) (by omega)).trans b0
  have b1' := (bV.block (w.heap.size + 1) (by omega)).trans b1
  have bwV : Below w.heap.size w V := bw1.trans ⟨bV.os, bV.tape, bV.output, bV.size, fun i hi => bV.block i (by omega)⟩
  have HW1 := Lib.hid hw1
  have HS1 := Lib.hid hs1
  clear hw1 b0 b1 bw1 C1 hs1
  gi_wp2_with (refine ⟨trivial, ?_⟩; gi_at_call 43; refine (callsIn_wide.2 (splitSeq_any _ l)).mono ?_; rintro e w2 ⟨rfl, rfl⟩)
  rw [← hV]
  have hs1 := HS1.out
  refine range_brk (gf := 72) (lb := #[.pointer (some ⟨w1.heap.size + 1, 0, none⟩), .pointer (some ⟨w1.heap.size, 0, none⟩), .pointer (some ⟨w1.heap.size + 2, 0, none⟩)]) rfl (enters_of Tryd.func72 (by kernel_rfl) rfl) (encs := fun x : List UInt8 => #[.string (strOf x)]) (n₁ := V.heap.size) (Nat.le_refl _)
    (S := fun ys => ys = cutL l) (Sp := fun _ => True) (Ex := fun pre x _ => (pre ++ [x]) <+: cutL l) (Si := [w1.heap.size]) (T := [w.heap.size, w.heap.size + 1]) ?si ?seq (fun _ => rfl)
    (fun pre W => (W.heap[w.heap.size]? = some (.cells #[.int .i64 (pre.length : Int)] 3 (0, 0)) ∧ W.heap[w.heap.size + 1]? = some (.cells #[.int .i64 0] 26 (0, 0))) ∧ (pre.length ≤ 6 ∧ pre.all (partL 12) = true) ∧ Below w.heap.size w W ∧ V.heap.size ≤ W.heap.size)
    (fun c pre W => c = .exit 0 ∧ W.heap[w.heap.size + 1]? = some (.cells #[.int .i64 2] 26 (0, 0)) ∧ checkL 6 12 l = false ∧ Below w.heap.size w W)
    ?keep ?keepx ⟨⟨by simpa using b0', b1'⟩, ⟨by simp, rfl⟩, bwV, Nat.le_refl _⟩ ?elem
    (fun x => { tmps := #[.string (strOf l), undef, .int .i64 0, .pointer (some ⟨w.heap.size, 0, none⟩), .pointer (some ⟨w.heap.size + 1, 0, none⟩), .string (strOf x), .string (strOf l), .func (.func 72) #[] #[.pointer (some ⟨w1.heap.size + 1, 0, none⟩), .pointer (some ⟨w1.heap.size, 0, none⟩), .pointer (some ⟨w1.heap.size + 2, 0, none⟩)], .string (strOf x), undef, undef, undef, undef, undef, undef, undef, undef, undef, undef], defers := [] }) ?assign ?body ?done ?stop
  case si => intro x hx; simp at hx; omega
  case seq =>
    intro l' J Jx W hW hJ hJx hY h0
    have hs2 := hW.size
    exact split1_gives 3 l' V.heap.size w1.heap.size (w1.heap.size + 1) (w1.heap.size + 2) [w.heap.size, w.heap.size + 1] l hlen J Jx W (by omega) (by omega) (by omega) (by omega) (by omega) (by simp; omega) (by simp; omega) (by simp; omega) (by omega) hJ hY
      ((hW.cell (p := ⟨w1.heap.size + 1, 0, none⟩) (show w1.heap.size + 1 < V.heap.size by omega)).trans (by rw [cell_of v1]; rfl)) ((hW.block _ (by omega)).trans v0) ((hW.cell (p := ⟨w1.heap.size + 2, 0, none⟩) (show w1.heap.size + 2 < V.heap.size by omega)).trans (by rw [cell_of v2]; rfl)) h0
  case keep =>
    rintro pre A' B' ⟨⟨e4, e5⟩, hp, b, hz⟩ hb
    exact ⟨⟨(hb.block _ (by omega) (by simp; omega)).trans e4, (hb.block _ (by omega) (by simp; omega)).trans e5⟩, hp, b.trans ⟨hb.os, hb.tape, hb.output, hb.size, fun k hk => hb.block k (by omega) (by simp; omega)⟩, Nat.le_trans hz hb.size⟩
  case keepx =>
    rintro c pre A' B' ⟨hc, e5, hp, b⟩ hb
    exact ⟨hc, (hb.block _ (by omega) (by simp; omega)).trans e5, hp, b.trans ⟨hb.os, hb.tape, hb.output, hb.size, fun k hk => hb.block k (by omega) (by simp; omega)⟩⟩
  case elem =>
    rintro pre x W l o o' hl ho hx
    exact hx
  case assign =>
    intro l x W K hK
    clear hs1
    gi_wp2
    exact hK
  case body =>
    rintro l' pre x W ⟨⟨e4, e5⟩, ⟨hp1, hp2⟩, b, hz⟩ hx
    have c4 := cell_of e4 0
    have f4 := free_of e4 0
    have c5 := cell_of e5 0
    have f5 := free_of e5 0
    simp only [List.getElem?_toArray, List.getElem?_cons_zero] at c4 c5
    have q4 : (W.setCell ⟨w.heap.size, 0, none⟩ (.int .i64 ((pre.length : Int) + 1))).heap[w.heap.size]? = some (.cells #[.int .i64 ((pre.length : Int) + 1)] 3 (0, 0)) := by simpa using heap_setCell_same W w.heap.size 0 _ _ (.int .i64 ((pre.length : Int) + 1)) e4
    have q5 : (W.setCell ⟨w.heap.size, 0, none⟩ (.int .i64 ((pre.length : Int) + 1))).heap[w.heap.size + 1]? = some (.cells #[.int .i64 0] 26 (0, 0)) := (heap_setCell_other W ⟨w.heap.size, 0, none⟩ (w.heap.size + 1) _ (by simp)).trans e5
    have bW : Below w.heap.size w (W.setCell ⟨w.heap.size, 0, none⟩ (.int .i64 ((pre.length : Int) + 1))) := b.setCell (p := ⟨w.heap.size, 0, none⟩) (Nat.le_refl _) _
    have HX := Lib.hid hx
    have HP := Lib.hid hp2
    have BW := Lib.hid bW
    have Q4 := Lib.hid q4
    have Q5 := Lib.hid q5
    have HZ := Lib.hid hz
    have KW := Lib.hid ((Chg.refl [w.heap.size] W).setCell (p := ⟨w.heap.size, 0, none⟩) (.inl (by simp)) (.int .i64 ((pre.length : Int) + 1)))
    clear hs1 hx hp2 b e4 e5 q4 q5 bW hz
    have k0 : IntKind.i64.wrap ((pre.length : Int) + 1) = (pre.length : Int) + 1 := IntWalk.i64_in _ (by omega)
    by_cases h6 : 6 ≤ pre.length
    · have i6 : (6 : Int) < (pre.length : Int) + 1 := by omega
      gi_wp2_with (refine ⟨trivial, ?_⟩)
      exact ⟨(KeepsOthers.setCell _ _ _).trans (KeepsOthers.setCell _ _ _), rfl, by simpa using heap_setCell_same _ (w.heap.size + 1) 0 _ _ (.int .i64 2) Q5.out, check_no2 HX.out h6, BW.out.setCell (p := ⟨w.heap.size + 1, 0, none⟩) (Nat.le_succ _) _⟩
    · have i6 : ¬ ((6 : Int) < (pre.length : Int) + 1) := by omega
      have i7 : (pre.length : Int) + 1 ≤ 6 := by omega
      cases hpx : partL 12 x with
      | false =>
        have PX := Lib.hid (fun w => hpx ▸ isPart_any w x)
        have HPX := Lib.hid hpx
        clear hpx
        gi_wp2_with (refine ⟨trivial, ?_⟩; gi_at_call 37; refine (CallsIn.inRound l' (callsIn_wide.2 (PX.out _))).mono ?_; rintro e w9 ⟨rfl, hb9⟩; have p5 := (hb9.block (w.heap.size + 1) (lt_of_heap Q5.out)).trans Q5.out; have c59 := cell_of p5 0; simp only [List.getElem?_toArray, List.getElem?_cons_zero] at c59; have f59 := free_of p5 0; have P5 := Lib.hid p5; have P4 := Lib.hid ((hb9.block w.heap.size (lt_of_heap Q4.out)).trans Q4.out); have HB9 := Lib.hid hb9; clear p5 hb9)
        have hbw : Below w.heap.size w w9 := BW.out.trans ⟨HB9.out.os, HB9.out.tape, HB9.out.output, HB9.out.size, fun i hi => HB9.out.block i (Nat.lt_of_lt_of_le hi BW.out.size)⟩
        exact ⟨((KeepsOthers.setCell _ _ _).trans (below_others HB9.out)).trans (KeepsOthers.setCell _ _ _), rfl, by simpa using heap_setCell_same w9 (w.heap.size + 1) 0 _ _ (.int .i64 2) P5.out, check_no1 HX.out HPX.out, hbw.setCell (p := ⟨w.heap.size + 1, 0, none⟩) (Nat.le_succ _) _⟩
      | true =>
        have PX := Lib.hid (fun w => hpx ▸ isPart_any w x)
        have HPX := Lib.hid hpx
        clear hpx
        gi_wp2_with (refine ⟨trivial, ?_⟩; gi_at_call 37; refine (CallsIn.inRound l' (callsIn_wide.2 (PX.out _))).mono ?_; rintro e w9 ⟨rfl, hb9⟩; have p5 := (hb9.block (w.heap.size + 1) (lt_of_heap Q5.out)).trans Q5.out; have c59 := cell_of p5 0; simp only [List.getElem?_toArray, List.getElem?_cons_zero] at c59; have f59 := free_of p5 0; have P5 := Lib.hid p5; have P4 := Lib.hid ((hb9.block w.heap.size (lt_of_heap Q4.out)).trans Q4.out); have HB9 := Lib.hid hb9; clear p5 hb9)
        have hbw : Below w.heap.size w w9 := BW.out.trans ⟨HB9.out.os, HB9.out.tape, HB9.out.output, HB9.out.size, fun i hi => HB9.out.block i (Nat.lt_of_lt_of_le hi BW.out.size)⟩
        refine ⟨(KeepsOthers.setCell _ _ _).trans (below_others HB9.out), ?_, ⟨⟨by simpa using P4.out, P5.out⟩, ⟨by simp; omega, by simp [HPX.out]; simpa using HP.out⟩, hbw, ?_⟩⟩
        · exact ((Kpt.of_chg KW.out HZ.out).mono (Nat.le_refl _) (by simp)).trans (Kpt.of_below HB9.out (Nat.le_trans HZ.out KW.out.size))
        · exact Nat.le_trans HZ.out (Nat.le_trans KW.out.size HB9.out.size)
  case done =>
    rintro D ys W hD rfl ⟨⟨_, e5⟩, ⟨hp1, hp2⟩, hB, _⟩ hK
    have hck : checkL 6 12 l = true := by simp [checkL, hp1, hp2]
    have c5 := cell_of e5 0
    simp at c5
    have HC := Lib.hid hck
    clear hs1 hck
    gi_wp2
    refine ⟨by simp, .inl ⟨_, _, rfl, run_takeDeferred hK, ?_⟩⟩
    exact ⟨_, results_tmp rfl _ _ _, by rw [HC.out]; rfl, hB.trans (belowK_b (w := w) (Nat.le_refl _) W D _ _ (by have := HS1.out; omega) hK rfl rfl)⟩
  case stop =>
    rintro D c ys W hD _ ⟨rfl, e5, hck, hB⟩ hK
    have c5 := cell_of e5 0
    simp at c5
    have HC := Lib.hid hck
    clear hs1 hck
    refine wpIn_exit ?_
    gi_wp2
    refine ⟨by simp, .inl ⟨_, _, rfl, run_takeDeferred hK, ?_⟩⟩
    exact ⟨_, results_tmp rfl _ _ _, by rw [HC.out]; rfl, hB.trans (belowK_b (w := w) (Nat.le_refl _) W D _ _ (by have := HS1.out; omega) hK rfl rfl)⟩
end Go.Proofs.YtibdeiahmgkbhaaDoor
