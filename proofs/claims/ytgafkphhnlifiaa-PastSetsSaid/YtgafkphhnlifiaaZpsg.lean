/- past.Within. The document's ahead. -/
import Derived.Test.YtgafkphhnlifiaaZpsf
import Derived.Test.YtgafkphhnlifiaaZpsb
import Derived.Deep.Cut
import Derived.Deep.CutRange
import Derived.OwnWalkIn
namespace Go.Proofs.Ytgafkphhnlifiaa
section
open Go.RowKit Go.Lib
set_option linter.unusedSimpArgs false
set_option linter.unusedVariables false
attribute [local go_sem] Oper.semAt_some

theorem minus_one {a b : List Sp} {x : Sp} (ha : WfC a) (hb : WfC b) (hx : B3 x) (h : ∀ n s, InS x n s → kF (memb a n s) (memb b n s) = true) : b.foldl withoutP a ≠ [] := by
  intro e
  obtain ⟨_, f⟩ := withouts_norm (b := b) hb.1.1 ha.1
  have q := h x.1 x.2.1 ⟨rfl, Int.le_refl _, by unfold B3 at hx; omega⟩
  unfold kF at q
  rw [Bool.and_eq_true, memb_iff] at q
  have m := (f x.1 x.2.1).2 ⟨q.1, by have := q.2; simpa [memb] using this⟩
  rw [e] at m
  exact mem_nil m
theorem within_result (tmps : Array Value) (w : World) (g : Nat) (v : Value) (hp : tmps[4]?.getD undef = .pointer (some ⟨g, 0, none⟩)) (hc : w.cell? ⟨g, 0, none⟩ = some v) : (results Try.f22 tmps).run Try.prog w = .ok v w := by
  have h : Try.f22.results = #[.cell 4 4] := rfl
  simp [results, h, hp, asAddr, go_sem, loadVar, Try.underlying4, hc]
set_option maxRecDepth 100000 in
set_option maxHeartbeats 8000000 in
theorem within_any (w : World) (A : Option Addr) (c : Nat) (xs : List Sp) (B : Option Addr) (d : Nat) (ys : List Sp) (h : RdK spanTy w A xs.length xs) (hc : xs.length ≤ c ∧ c ≤ maxLen) (ho : ∀ a, A = some a → a.block < w.heap.size) (h' : RdK spanTy w B ys.length ys) (hd : ys.length ≤ d ∧ d ≤ maxLen) (ho' : ∀ a, B = some a → a.block < w.heap.size) (hn : xs.length ≤ 140737488351232) (hm : ys.length ≤ 140737488351232) :
    Calls Try.prog 22 #[.slice A xs.length c, .slice B ys.length d] w fun e w' => e = .returned (.bool (withinE xs ys)) ∧ Chg [] w w' := by
  obtain ⟨w0, hw0, c0, b0⟩ := news1 w (.cells #[.bool false] 4)
  have W0 := Lib.hid hw0
  have C0 := Lib.hid c0
  have B0 := Lib.hid b0
  have LR := Lib.hid (lt_of_heap b0)
  have H := Lib.hid (h.chg c0 (by simp))
  have H' := Lib.hid (h'.chg c0 (by simp))
  have HC := Lib.hid hc
  have HD := Lib.hid hd
  have HO := Lib.hid (fun a ha => (ho a ha))
  have HO' := Lib.hid (fun a ha => (ho' a ha))
  have HN := Lib.hid (show xs.length ≤ 140737488351232 ∧ ys.length ≤ 140737488351232 from ⟨hn, hm⟩)
  clear h h' hc hd ho ho' hn hm hw0 c0 b0
  have M := Lib.hid (may_any w0 A xs.length c xs H.out HN.out.1 B ys.length d ys H'.out HN.out.2)
  by_cases hk : chkS xs = 0 ∧ chkS ys = 0
  rotate_left
  · have eE : withinE xs ys = false := by unfold withinE; rw [decide_eq_false hk]; rfl
    rw [decide_eq_false hk] at M
    rw [eE]
    clear hk eE
    go_enter Try.func22, Try.ntmps22
    go_upto_region 1 with fail
    rw [← W0.out]
    generalize hr0 : w.heap.size = r0 at *
    have HR := Lib.hid hr0
    clear hr0
    go_wp2_with fail
    refine M.out.mono ?_
    rintro e w1 ⟨rfl, h1⟩
    have C1 := Lib.hid (C0.out.trans h1)
    have b1 := h1.at_ B0.out (by simp)
    have z0 := cell_of b1 0
    have f0 := free_of b1 0
    simp only [List.getElem?_toArray, List.getElem?_cons_succ, List.getElem?_cons_zero] at z0
    have B1 := Lib.hid b1
    clear h1 M b1
    go_wp2
    have Z : (w1.setCell ⟨r0, 0, none⟩ (.bool false)).cell? ⟨r0, 0, none⟩ = some (.bool false) := by
      have p := cell_of (heap_setCell_same w1 r0 0 _ _ (.bool false) B1.out) 0
      simpa using p
    refine bodyPost_ret (within_result _ _ r0 _ rfl Z) rfl ?_
    exact ⟨rfl, C1.out.setCell (.inr (Nat.le_of_eq HR.out)) _⟩
  have eE : withinE xs ys = decide (ys.foldl withoutP xs = []) := by unfold withinE; rw [decide_eq_true hk]; rfl
  rw [decide_eq_true hk] at M
  rw [eE]
  obtain ⟨wa, la⟩ := wf_of_chk hk.1
  obtain ⟨wb, lb⟩ := wf_of_chk hk.2
  have WA := Lib.hid wa
  have WB := Lib.hid wb
  have LL := Lib.hid (show xs.length + ys.length ≤ 10000 by omega)
  generalize hRR : decide (ys.foldl withoutP xs = []) = RR
  have HRR := Lib.hid hRR
  clear hRR hk wa wb la lb eE
  refine (callsIn_wide (n := 6)).1 ?_
  refine callsIn_of_wp_marks Try.func22 rfl trivial ?_ rfl
  simp only [Try.ntmps22, List.size_toArray, List.length_cons, List.length_nil, Nat.reduceAdd, Nat.reduceSub, Array.replicate_succ, Array.replicate_zero, List.push_toArray, List.append_toArray, List.nil_append, List.cons_append]
  obtain ⟨r0, hr0⟩ : ∃ r, w.heap.size = r := ⟨_, rfl⟩
  have HR := Lib.hid hr0
  rw [hr0] at B0 LR
  clear hr0
  have OVER := Lib.hid (fun (w1 : World) (h1 : Chg [] w0 w1) => over_any w1 A c xs B d ys 54 (blkOf A ++ blkOf B) (H.out.chg h1 (by simp)) HC.out (fun a ha => Nat.lt_of_lt_of_le (HO.out a ha) (Nat.le_trans C0.out.size h1.size)) (H'.out.chg h1 (by simp)) HD.out (fun a ha => Nat.lt_of_lt_of_le (HO'.out a ha) (Nat.le_trans C0.out.size h1.size)) (fun a ha => List.mem_append_left _ (mem_blkOf ha)) (fun a ha => List.mem_append_right _ (mem_blkOf ha)) (fun z hz => by
    have s1 := C0.out.size
    have s2 := h1.size
    rcases List.mem_append.1 hz with e | e
    · obtain ⟨y, hy, rfl⟩ := of_blkOf e
      have := HO.out y hy; omega
    · obtain ⟨y, hy, rfl⟩ := of_blkOf e
      have := HO'.out y hy; omega))
  have BX : Hid (∀ z ∈ blkOf A ++ blkOf B, z < r0) := Lib.hid (fun z hz => by
    have := HR.out
    rcases List.mem_append.1 hz with e | e
    · obtain ⟨y, hy, rfl⟩ := of_blkOf e
      have := HO.out y hy; omega
    · obtain ⟨y, hy, rfl⟩ := of_blkOf e
      have := HO'.out y hy; omega)
  gi_wp2_with (refine ⟨trivial, ?_⟩; first | (gi_at_call 50; rw [← W0.out]; refine (callsIn_wide.2 M.out).mono ?_; rintro e w1 ⟨rfl, h1⟩; have C1 := Lib.hid h1; clear h1) | (gi_at_call 51; refine (callsIn_wide.2 (OVER.out _ C1.out)).mono ?_; rintro e w2 ⟨g, rfl, h1, h2, h3⟩; have SW := Lib.hid h1; have GG := Lib.hid h2; have C2 := Lib.hid (C1.out.trans h3); clear h1 h2 h3))
  rw [HR.out]
  have gr : r0 < g := by have := LR.out; have := C1.out.size; have := GG.out; omega
  have LG := Lib.hid (show g < w2.heap.size from by obtain ⟨_, _, _, _, q⟩ := SW.out; exact lt_of_heap q.hg)
  have R2 := Lib.hid (C2.out.at_ B0.out (by simp))
  have lr := lt_of_heap R2.out
  have lg := LG.out
  have GR := Lib.hid gr
  refine range_bound (gf := 58) (bd := #[.pointer (some ⟨g, 0, none⟩)]) (lb := #[]) rfl (enters_of Try.func58 (by kernel_rfl) rfl) (encs := fun x : Sp => #[.agg #[.int .i64 x.1, .int .i64 x.2.1, .int .i64 x.2.2]]) (n₁ := w2.heap.size) (Nat.le_refl _)
    (S := fun pre => SwInv kF xs ys [] [] pre) (Sp := fun _ => True) (Ex := fun pre x _ => B3 x ∧ (∀ y ∈ pre, Le y x) ∧ pre.length < potP xs ys ∧ ∀ n s, InS x n s → kF (memb xs n s) (memb ys n s) = true) (Bd := fun _ => True) (Si := [g]) (T := [r0]) ?si ?seq (fun _ => rfl)
    (fun pre W => pre = [] ∧ W.heap[r0]? = some (.cells #[.bool false] 4 (0, 0)) ∧ Chg [g] w2 W)
    (fun c pre W => c = .ret ∧ ys.foldl withoutP xs ≠ [] ∧ W.heap[r0]? = some (.cells #[.bool false] 4 (0, 0)) ∧ Chg [g, r0] w2 W)
    ?keep ?keepx ?kl ?kxl ?bd ⟨rfl, R2.out, Chg.refl _ _⟩ ?elem
    (fun x => { tmps := #[.slice A xs.length c, .slice B ys.length d, undef, undef, .pointer (some ⟨r0, 0, none⟩), .slice A xs.length c, .slice B ys.length d, .bool true, .bool false, .slice A xs.length c, .slice B ys.length d, .pointer (some ⟨g, 0, none⟩), .func (.func 58) #[.pointer (some ⟨g, 0, none⟩)] #[], .agg #[.int .i64 x.1, .int .i64 x.2.1, .int .i64 x.2.2]], defers := [] }) ?assign ?body ?done ?stop
  case si => intro x hx; simp at hx; omega
  case seq =>
    intro l' J Jx W hW hJ hJx hJb hY h0
    have hs2 := hW.size
    have sw : SwP W g (blkOf A ++ blkOf B) xs ys 54 := SW.out.chg (Chg.ofBelow hW (Nat.le_refl _) []) (by simp) (by simp)
    refine (kept_first 4 l' w2.heap.size g [r0] (blkOf A ++ blkOf B) xs ys J Jx W ⟨by omega, by simp; omega⟩ (fun z hz => by have := BX.out z hz; simp; omega) (by omega) hJ hY sw WA.out WB.out h0).mono ?_
    rintro e W' ⟨h1, h2 | ⟨pre, h2⟩⟩
    · exact ⟨h1, .inl h2⟩
    · exact ⟨h1, .inr ⟨pre, trivial, h2⟩⟩
  case keep =>
    rintro pre A' B' ⟨hp, e1, hC⟩ hb
    exact ⟨hp, hb.at_ e1 (by simp; omega), hC.trans hb⟩
  case keepx =>
    rintro c pre A' B' ⟨hc, hp, e1, hC⟩ hb
    exact ⟨hc, hp, hb.at_ e1 (by simp; omega), hC.trans (hb.mono (by simp))⟩
  case kl =>
    rintro pre W l o o' hl ho hll ⟨hp, e1, hC⟩
    exact ⟨hp, (World.putObj_heap_other (by omega)).trans e1, hC.putl (by omega)⟩
  case kxl =>
    rintro c pre W l o o' hl ho hll ⟨hc, hp, e1, hC⟩
    exact ⟨hc, hp, (World.putObj_heap_other (by omega)).trans e1, hC.putl (by omega)⟩
  case bd => exact fun _ _ _ => trivial
  case elem => rintro pre x W l o o' hl ho hx; exact hx
  case assign =>
    intro l x W K hK
    clear lg lr gr
    gi_wp2
    have ez : (#[13].zip #[Value.agg #[Value.int IntKind.i64 x.1, Value.int IntKind.i64 x.2.1, Value.int IntKind.i64 x.2.2]] : Array (Nat × Value)) = #[(13, Value.agg #[Value.int IntKind.i64 x.1, Value.int IntKind.i64 x.2.1, Value.int IntKind.i64 x.2.2])] := by simp [List.zip_toArray]
    rw [ez]
    simpa using hK
  case body =>
    rintro l' pre x W ⟨hp, e1, hC⟩ ⟨hx, hle, hcnt, hk⟩
    have NE := Lib.hid (minus_one WA.out WB.out hx hk)
    have E1 := Lib.hid e1
    have HC1 := Lib.hid hC
    have z0 := cell_of e1 0
    have f0 := free_of e1 0
    simp only [List.getElem?_toArray, List.getElem?_cons_zero] at z0
    clear hp e1 hC hx hle hcnt hk lg lr gr
    gi_wp2
    exact ⟨KeepsOthers.setCell _ _ _, rfl, NE.out, by simpa using heap_setCell_same W r0 0 _ _ (.bool false) E1.out, (HC1.out.mono (by simp)).setCell (p := ⟨r0, 0, none⟩) (.inl (by simp)) _⟩
  case done =>
    rintro D zs W hD hS ⟨rfl, e1, hC⟩ hK
    have HE : Hid (RR = true) := Lib.hid (by rw [← HRR.out]; exact decide_eq_true (minus_eq WA.out WB.out hS).symm)
    have E1 := Lib.hid e1
    have HC1 := Lib.hid hC
    have z0 := cell_of e1 0
    have f0 := free_of e1 0
    simp only [List.getElem?_toArray, List.getElem?_cons_zero] at z0
    clear hS e1 hC lg lr gr
    gi_wp2
    have ne : D ≠ r0 := by have := lt_of_heap R2.out; omega
    have gw : w.heap.size ≤ g := by have := HR.out; have := GR.out; omega
    have dw : w.heap.size ≤ D := Nat.le_trans (C0.out.trans C2.out).size hD
    have Z : ∀ o, ((W.setCell ⟨r0, 0, none⟩ (.bool true)).putObj D o).cell? ⟨r0, 0, none⟩ = some (.bool true) := fun o => by
      have p := cell_of ((World.putObj_heap_other (o := o) (fun e => ne e.symm)).trans (heap_setCell_same W r0 0 _ _ (.bool true) E1.out)) 0
      simpa using p
    refine ⟨by simp, .inl ⟨_, _, rfl, run_takeDeferred ((heap_setCell_other W ⟨r0, 0, none⟩ D _ ne).trans hK), ?_⟩⟩
    exact ⟨_, within_result _ _ r0 _ rfl (Z _), by rw [HE.out], (((C0.out.trans C2.out).trans' HC1.out (fun z hz => by simp at hz; subst hz; exact .inr gw)).setCell (p := ⟨r0, 0, none⟩) (.inr (Nat.le_of_eq HR.out)) (.bool true)).putl dw⟩
  case stop =>
    rintro D c zs W hD _ ⟨rfl, hne, e1, hC⟩ hK
    have HE : Hid (RR = false) := Lib.hid (by rw [← HRR.out]; exact decide_eq_false hne)
    have E1 := Lib.hid e1
    have HC1 := Lib.hid hC
    have z0 := cell_of e1 0
    simp only [List.getElem?_toArray, List.getElem?_cons_zero] at z0
    clear hne e1 hC lg lr gr
    gi_wp2
    have ne : D ≠ r0 := by have := lt_of_heap R2.out; omega
    have gw : w.heap.size ≤ g := by have := HR.out; have := GR.out; omega
    have dw : w.heap.size ≤ D := Nat.le_trans (C0.out.trans C2.out).size hD
    have Z : ∀ o, ((W).putObj D o).cell? ⟨r0, 0, none⟩ = some (.bool false) := fun o => by
      have p := cell_of ((World.putObj_heap_other (o := o) (fun e => ne e.symm)).trans (E1.out)) 0
      simpa using p
    refine ⟨by simp, .inl ⟨_, _, rfl, run_takeDeferred (hK), ?_⟩⟩
    exact ⟨_, within_result _ _ r0 _ rfl (Z _), by rw [HE.out], ((C0.out.trans C2.out).trans' HC1.out (fun z hz => by simp at hz; rcases hz with rfl | rfl; exact .inr gw; exact .inr (Nat.le_of_eq HR.out))).putl dw⟩
end
section
open Go.RowKit Go.Lib
set_option linter.unusedSimpArgs false
set_option linter.unusedVariables false


set_option maxRecDepth 100000 in
set_option maxHeartbeats 8000000 in
theorem ahead_any (w : World) (x y : Sp) : Calls Try.prog 71 #[.agg #[.int .i64 x.1, .int .i64 x.2.1, .int .i64 x.2.2], .agg #[.int .i64 y.1, .int .i64 y.2.1, .int .i64 y.2.2]] w fun e w' => e = .returned (.bool (decide (Lt3 x y))) ∧ Chg [] w w' := by
  obtain ⟨w1, hw1, c1, b0, b1⟩ := news2 w (.cells #[.int .i64 x.1, .int .i64 x.2.1, .int .i64 x.2.2] 62) (.cells #[.int .i64 y.1, .int .i64 y.2.1, .int .i64 y.2.2] 62)
  have W1 := Lib.hid hw1
  have C1 := Lib.hid c1
  have y0 := cell_of b0 0
  have y1 := cell_of b0 1
  have y2 := cell_of b0 2
  have z0 := cell_of b1 0
  have z1 := cell_of b1 1
  have z2 := cell_of b1 2
  simp only [List.getElem?_toArray, List.getElem?_cons_succ, List.getElem?_cons_zero] at y0 y1 y2 z0 z1 z2
  clear hw1 c1 b0 b1
  have fin : ∀ v, decide (Lt3 x y) = v → Calls Try.prog 71 #[.agg #[.int .i64 x.1, .int .i64 x.2.1, .int .i64 x.2.2], .agg #[.int .i64 y.1, .int .i64 y.2.1, .int .i64 y.2.2]] w (fun e w' => e = .returned (.bool v) ∧ Chg [] w w') → Calls Try.prog 71 #[.agg #[.int .i64 x.1, .int .i64 x.2.1, .int .i64 x.2.2], .agg #[.int .i64 y.1, .int .i64 y.2.1, .int .i64 y.2.2]] w fun e w' => e = .returned (.bool (decide (Lt3 x y))) ∧ Chg [] w w' := fun v hv h => hv ▸ h
  obtain ⟨x1, x2, x3⟩ := x
  obtain ⟨u1, u2, u3⟩ := y
  dsimp only at *
  rcases Int.lt_trichotomy x1 u1 with h | h | h
  · have f1 : x1 < u1 := h
    refine fin true (decide_eq_true (.inl h)) ?_
    clear fin
    go_enter Try.func71, Try.ntmps71
    go_upto_region 1 with fail
    rw [← W1.out]
    generalize w.heap.size = g0 at *
    go_wp2
    go_ret
    exact ⟨rfl, C1.out⟩
  · subst h
    have f0 : ¬ x1 < x1 := by omega
    have f3 : ((x1 == x1) : Bool) = true := by simp
    rcases Int.lt_trichotomy x2 u2 with h2 | h2 | h2
    · have f1 : x2 < u2 := h2
      refine fin true (decide_eq_true (.inr ⟨rfl, .inl h2⟩)) ?_
      clear fin
      go_enter Try.func71, Try.ntmps71
      go_upto_region 1 with fail
      rw [← W1.out]
      generalize w.heap.size = g0 at *
      go_wp2
      go_ret
      exact ⟨rfl, C1.out⟩
    · subst h2
      have f4 : ¬ x2 < x2 := by omega
      have f5 : ((x2 == x2) : Bool) = true := by simp
      by_cases h3 : x3 < u3
      · skip
        refine fin true (decide_eq_true (.inr ⟨rfl, .inr ⟨rfl, h3⟩⟩)) ?_
        clear fin
        go_enter Try.func71, Try.ntmps71
        go_upto_region 1 with fail
        rw [← W1.out]
        generalize w.heap.size = g0 at *
        go_wp2
        go_ret
        exact ⟨rfl, C1.out⟩
      refine fin false (decide_eq_false (by unfold Lt3; simp only; omega)) ?_
      clear fin
      go_enter Try.func71, Try.ntmps71
      go_upto_region 1 with fail
      rw [← W1.out]
      generalize w.heap.size = g0 at *
      go_wp2
      go_ret
      exact ⟨rfl, C1.out⟩
    · have f4 : ¬ x2 < u2 := by omega
      have f5 : ((x2 == u2) : Bool) = false := by simp; omega
      refine fin false (decide_eq_false (by unfold Lt3; simp only; omega)) ?_
      clear fin
      go_enter Try.func71, Try.ntmps71
      go_upto_region 1 with fail
      rw [← W1.out]
      generalize w.heap.size = g0 at *
      go_wp2
      go_ret
      exact ⟨rfl, C1.out⟩
  · have f1 : ¬ x1 < u1 := by omega
    have f3 : ((x1 == u1) : Bool) = false := by simp; omega
    refine fin false (decide_eq_false (by unfold Lt3; simp only; omega)) ?_
    clear fin
    go_enter Try.func71, Try.ntmps71
    go_upto_region 1 with fail
    rw [← W1.out]
    generalize w.heap.size = g0 at *
    go_wp2
    go_ret
    exact ⟨rfl, C1.out⟩
end
end Go.Proofs.Ytgafkphhnlifiaa
