/- past.Within. past.Has: how a span lies to a dot. past.Has: a dot is looked for. past.Has. past: Count, Last. The document's ahead. -/
import Derived.Test.YtgafkphhnlifiaaZphf
import Derived.Test.YtgafkphhnlifiaaZphb
import Derived.Deep.Cut
import Derived.Deep.CutRange
import Derived.OwnWalkIn
namespace Go.Proofs.Ytgafkphhnlifiaa
section
open Go.RowKit Go.Lib
set_option linter.unusedSimpArgs false
set_option linter.unusedVariables false
attribute [local go_sem] Oper.semAt_some

theorem minus_one {a b : List Sp} {x : Sp} (ha : WfC a) (hb : WfC b) (hx : B3 x) (h : ∀ n s, InS x n s → kF (memb a n s) (memb b n s) = true) : b.foldl withoutP a ≠ [] := by
  intro e
  obtain ⟨_, f⟩ := withouts_norm (b := b) hb.1.1 ha.1
  have q := h x.1 x.2.1 ⟨rfl, Int.le_refl _, by unfold B3 at hx; omega⟩
  unfold kF at q
  rw [Bool.and_eq_true, memb_iff] at q
  have m := (f x.1 x.2.1).2 ⟨q.1, by have := q.2; simpa [memb] using this⟩
  rw [e] at m
  exact mem_nil m
theorem within_result (tmps : Array Value) (w : World) (g : Nat) (v : Value) (hp : tmps[4]?.getD undef = .pointer (some ⟨g, 0, none⟩)) (hc : w.cell? ⟨g, 0, none⟩ = some v) : (results Try.f22 tmps).run Try.prog w = .ok v w := by
  have h : Try.f22.results = #[.cell 4 4] := rfl
  simp [results, h, hp, asAddr, go_sem, loadVar, Try.underlying4, hc]
set_option maxRecDepth 100000 in
set_option maxHeartbeats 8000000 in
theorem within_any (w : World) (A : Option Addr) (c : Nat) (xs : List Sp) (B : Option Addr) (d : Nat) (ys : List Sp) (h : RdK spanTy w A xs.length xs) (hc : xs.length ≤ c ∧ c ≤ maxLen) (ho : ∀ a, A = some a → a.block < w.heap.size) (h' : RdK spanTy w B ys.length ys) (hd : ys.length ≤ d ∧ d ≤ maxLen) (ho' : ∀ a, B = some a → a.block < w.heap.size) (hn : xs.length ≤ 140737488351232) (hm : ys.length ≤ 140737488351232) :
    Calls Try.prog 22 #[.slice A xs.length c, .slice B ys.length d] w fun e w' => e = .returned (.bool (withinE xs ys)) ∧ Chg [] w w' := by
  obtain ⟨w0, hw0, c0, b0⟩ := news1 w (.cells #[.bool false] 4)
  have W0 := Lib.hid hw0
  have C0 := Lib.hid c0
  have B0 := Lib.hid b0
  have LR := Lib.hid (lt_of_heap b0)
  have H := Lib.hid (h.chg c0 (by simp))
  have H' := Lib.hid (h'.chg c0 (by simp))
  have HC := Lib.hid hc
  have HD := Lib.hid hd
  have HO := Lib.hid (fun a ha => (ho a ha))
  have HO' := Lib.hid (fun a ha => (ho' a ha))
  have HN := Lib.hid (show xs.length ≤ 140737488351232 ∧ ys.length ≤ 140737488351232 from ⟨hn, hm⟩)
  clear h h' hc hd ho ho' hn hm hw0 c0 b0
  have M := Lib.hid (may_any w0 A xs.length c xs H.out HN.out.1 B ys.length d ys H'.out HN.out.2)
  by_cases hk : chkS xs = 0 ∧ chkS ys = 0
  rotate_left
  · have eE : withinE xs ys = false := by unfold withinE; rw [decide_eq_false hk]; rfl
    rw [decide_eq_false hk] at M
    rw [eE]
    clear hk eE
    go_enter Try.func22, Try.ntmps22
    go_upto_region 1 with fail
    rw [← W0.out]
    generalize hr0 : w.heap.size = r0 at *
    have HR := Lib.hid hr0
    clear hr0
    go_wp2_with fail
    refine M.out.mono ?_
    rintro e w1 ⟨rfl, h1⟩
    have C1 := Lib.hid (C0.out.trans h1)
    have b1 := h1.at_ B0.out (by simp)
    have z0 := cell_of b1 0
    have f0 := free_of b1 0
    simp only [List.getElem?_toArray, List.getElem?_cons_succ, List.getElem?_cons_zero] at z0
    have B1 := Lib.hid b1
    clear h1 M b1
    go_wp2
    have Z : (w1.setCell ⟨r0, 0, none⟩ (.bool false)).cell? ⟨r0, 0, none⟩ = some (.bool false) := by
      have p := cell_of (heap_setCell_same w1 r0 0 _ _ (.bool false) B1.out) 0
      simpa using p
    refine bodyPost_ret (within_result _ _ r0 _ rfl Z) rfl ?_
    exact ⟨rfl, C1.out.setCell (.inr (Nat.le_of_eq HR.out)) _⟩
  have eE : withinE xs ys = decide (ys.foldl withoutP xs = []) := by unfold withinE; rw [decide_eq_true hk]; rfl
  rw [decide_eq_true hk] at M
  rw [eE]
  obtain ⟨wa, la⟩ := wf_of_chk hk.1
  obtain ⟨wb, lb⟩ := wf_of_chk hk.2
  have WA := Lib.hid wa
  have WB := Lib.hid wb
  have LL := Lib.hid (show xs.length + ys.length ≤ 10000 by omega)
  generalize hRR : decide (ys.foldl withoutP xs = []) = RR
  have HRR := Lib.hid hRR
  clear hRR hk wa wb la lb eE
  refine (callsIn_wide (n := 6)).1 ?_
  refine callsIn_of_wp_marks Try.func22 rfl trivial ?_ rfl
  simp only [Try.ntmps22, List.size_toArray, List.length_cons, List.length_nil, Nat.reduceAdd, Nat.reduceSub, Array.replicate_succ, Array.replicate_zero, List.push_toArray, List.append_toArray, List.nil_append, List.cons_append]
  obtain ⟨r0, hr0⟩ : ∃ r, w.heap.size = r := ⟨_, rfl⟩
  have HR := Lib.hid hr0
  rw [hr0] at B0 LR
  clear hr0
  have OVER := Lib.hid (fun (w1 : World) (h1 : Chg [] w0 w1) => over_any w1 A c xs B d ys 54 (blkOf A ++ blkOf B) (H.out.chg h1 (by simp)) HC.out (fun a ha => Nat.lt_of_lt_of_le (HO.out a ha) (Nat.le_trans C0.out.size h1.size)) (H'.out.chg h1 (by simp)) HD.out (fun a ha => Nat.lt_of_lt_of_le (HO'.out a ha) (Nat.le_trans C0.out.size h1.size)) (fun a ha => List.mem_append_left _ (mem_blkOf ha)) (fun a ha => List.mem_append_right _ (mem_blkOf ha)) (fun z hz => by
    have s1 := C0.out.size
    have s2 := h1.size
    rcases List.mem_append.1 hz with e | e
    · obtain ⟨y, hy, rfl⟩ := of_blkOf e
      have := HO.out y hy; omega
    · obtain ⟨y, hy, rfl⟩ := of_blkOf e
      have := HO'.out y hy; omega))
  have BX : Hid (∀ z ∈ blkOf A ++ blkOf B, z < r0) := Lib.hid (fun z hz => by
    have := HR.out
    rcases List.mem_append.1 hz with e | e
    · obtain ⟨y, hy, rfl⟩ := of_blkOf e
      have := HO.out y hy; omega
    · obtain ⟨y, hy, rfl⟩ := of_blkOf e
      have := HO'.out y hy; omega)
  gi_wp2_with (refine ⟨trivial, ?_⟩; first | (gi_at_call 50; rw [← W0.out]; refine (callsIn_wide.2 M.out).mono ?_; rintro e w1 ⟨rfl, h1⟩; have C1 := Lib.hid h1; clear h1) | (gi_at_call 51; refine (callsIn_wide.2 (OVER.out _ C1.out)).mono ?_; rintro e w2 ⟨g, rfl, h1, h2, h3⟩; have SW := Lib.hid h1; have GG := Lib.hid h2; have C2 := Lib.hid (C1.out.trans h3); clear h1 h2 h3))
  rw [HR.out]
  have gr : r0 < g := by have := LR.out; have := C1.out.size; have := GG.out; omega
  have LG := Lib.hid (show g < w2.heap.size from by obtain ⟨_, _, _, _, q⟩ := SW.out; exact lt_of_heap q.hg)
  have R2 := Lib.hid (C2.out.at_ B0.out (by simp))
  have lr := lt_of_heap R2.out
  have lg := LG.out
  have GR := Lib.hid gr
  refine range_bound (gf := 58) (bd := #[.pointer (some ⟨g, 0, none⟩)]) (lb := #[]) rfl (enters_of Try.func58 (by kernel_rfl) rfl) (encs := fun x : Sp => #[.agg #[.int .i64 x.1, .int .i64 x.2.1, .int .i64 x.2.2]]) (n₁ := w2.heap.size) (Nat.le_refl _)
    (S := fun pre => SwInv kF xs ys [] [] pre) (Sp := fun _ => True) (Ex := fun pre x _ => B3 x ∧ (∀ y ∈ pre, Le y x) ∧ pre.length < potP xs ys ∧ ∀ n s, InS x n s → kF (memb xs n s) (memb ys n s) = true) (Bd := fun _ => True) (Si := [g]) (T := [r0]) ?si ?seq (fun _ => rfl)
    (fun pre W => pre = [] ∧ W.heap[r0]? = some (.cells #[.bool false] 4 (0, 0)) ∧ Chg [g] w2 W)
    (fun c pre W => c = .ret ∧ ys.foldl withoutP xs ≠ [] ∧ W.heap[r0]? = some (.cells #[.bool false] 4 (0, 0)) ∧ Chg [g, r0] w2 W)
    ?keep ?keepx ?kl ?kxl ?bd ⟨rfl, R2.out, Chg.refl _ _⟩ ?elem
    (fun x => { tmps := #[.slice A xs.length c, .slice B ys.length d, undef, undef, .pointer (some ⟨r0, 0, none⟩), .slice A xs.length c, .slice B ys.length d, .bool true, .bool false, .slice A xs.length c, .slice B ys.length d, .pointer (some ⟨g, 0, none⟩), .func (.func 58) #[.pointer (some ⟨g, 0, none⟩)] #[], .agg #[.int .i64 x.1, .int .i64 x.2.1, .int .i64 x.2.2]], defers := [] }) ?assign ?body ?done ?stop
  case si => intro x hx; simp at hx; omega
  case seq =>
    intro l' J Jx W hW hJ hJx hJb hY h0
    have hs2 := hW.size
    have sw : SwP W g (blkOf A ++ blkOf B) xs ys 54 := SW.out.chg (Chg.ofBelow hW (Nat.le_refl _) []) (by simp) (by simp)
    refine (kept_first 4 l' w2.heap.size g [r0] (blkOf A ++ blkOf B) xs ys J Jx W ⟨by omega, by simp; omega⟩ (fun z hz => by have := BX.out z hz; simp; omega) (by omega) hJ hY sw WA.out WB.out h0).mono ?_
    rintro e W' ⟨h1, h2 | ⟨pre, h2⟩⟩
    · exact ⟨h1, .inl h2⟩
    · exact ⟨h1, .inr ⟨pre, trivial, h2⟩⟩
  case keep =>
    rintro pre A' B' ⟨hp, e1, hC⟩ hb
    exact ⟨hp, hb.at_ e1 (by simp; omega), hC.trans hb⟩
  case keepx =>
    rintro c pre A' B' ⟨hc, hp, e1, hC⟩ hb
    exact ⟨hc, hp, hb.at_ e1 (by simp; omega), hC.trans (hb.mono (by simp))⟩
  case kl =>
    rintro pre W l o o' hl ho hll ⟨hp, e1, hC⟩
    exact ⟨hp, (World.putObj_heap_other (by omega)).trans e1, hC.putl (by omega)⟩
  case kxl =>
    rintro c pre W l o o' hl ho hll ⟨hc, hp, e1, hC⟩
    exact ⟨hc, hp, (World.putObj_heap_other (by omega)).trans e1, hC.putl (by omega)⟩
  case bd => exact fun _ _ _ => trivial
  case elem => rintro pre x W l o o' hl ho hx; exact hx
  case assign =>
    intro l x W K hK
    clear lg lr gr
    gi_wp2
    have ez : (#[13].zip #[Value.agg #[Value.int IntKind.i64 x.1, Value.int IntKind.i64 x.2.1, Value.int IntKind.i64 x.2.2]] : Array (Nat × Value)) = #[(13, Value.agg #[Value.int IntKind.i64 x.1, Value.int IntKind.i64 x.2.1, Value.int IntKind.i64 x.2.2])] := by simp [List.zip_toArray]
    rw [ez]
    simpa using hK
  case body =>
    rintro l' pre x W ⟨hp, e1, hC⟩ ⟨hx, hle, hcnt, hk⟩
    have NE := Lib.hid (minus_one WA.out WB.out hx hk)
    have E1 := Lib.hid e1
    have HC1 := Lib.hid hC
    have z0 := cell_of e1 0
    have f0 := free_of e1 0
    simp only [List.getElem?_toArray, List.getElem?_cons_zero] at z0
    clear hp e1 hC hx hle hcnt hk lg lr gr
    gi_wp2
    exact ⟨KeepsOthers.setCell _ _ _, rfl, NE.out, by simpa using heap_setCell_same W r0 0 _ _ (.bool false) E1.out, (HC1.out.mono (by simp)).setCell (p := ⟨r0, 0, none⟩) (.inl (by simp)) _⟩
  case done =>
    rintro D zs W hD hS ⟨rfl, e1, hC⟩ hK
    have HE : Hid (RR = true) := Lib.hid (by rw [← HRR.out]; exact decide_eq_true (minus_eq WA.out WB.out hS).symm)
    have E1 := Lib.hid e1
    have HC1 := Lib.hid hC
    have z0 := cell_of e1 0
    have f0 := free_of e1 0
    simp only [List.getElem?_toArray, List.getElem?_cons_zero] at z0
    clear hS e1 hC lg lr gr
    gi_wp2
    have ne : D ≠ r0 := by have := lt_of_heap R2.out; omega
    have gw : w.heap.size ≤ g := by have := HR.out; have := GR.out; omega
    have dw : w.heap.size ≤ D := Nat.le_trans (C0.out.trans C2.out).size hD
    have Z : ∀ o, ((W.setCell ⟨r0, 0, none⟩ (.bool true)).putObj D o).cell? ⟨r0, 0, none⟩ = some (.bool true) := fun o => by
      have p := cell_of ((World.putObj_heap_other (o := o) (fun e => ne e.symm)).trans (heap_setCell_same W r0 0 _ _ (.bool true) E1.out)) 0
      simpa using p
    refine ⟨by simp, .inl ⟨_, _, rfl, run_takeDeferred ((heap_setCell_other W ⟨r0, 0, none⟩ D _ ne).trans hK), ?_⟩⟩
    exact ⟨_, within_result _ _ r0 _ rfl (Z _), by rw [HE.out], (((C0.out.trans C2.out).trans' HC1.out (fun z hz => by simp at hz; subst hz; exact .inr gw)).setCell (p := ⟨r0, 0, none⟩) (.inr (Nat.le_of_eq HR.out)) (.bool true)).putl dw⟩
  case stop =>
    rintro D c zs W hD _ ⟨rfl, hne, e1, hC⟩ hK
    have HE : Hid (RR = false) := Lib.hid (by rw [← HRR.out]; exact decide_eq_false hne)
    have E1 := Lib.hid e1
    have HC1 := Lib.hid hC
    have z0 := cell_of e1 0
    simp only [List.getElem?_toArray, List.getElem?_cons_zero] at z0
    clear hne e1 hC lg lr gr
    gi_wp2
    have ne : D ≠ r0 := by have := lt_of_heap R2.out; omega
    have gw : w.heap.size ≤ g := by have := HR.out; have := GR.out; omega
    have dw : w.heap.size ≤ D := Nat.le_trans (C0.out.trans C2.out).size hD
    have Z : ∀ o, ((W).putObj D o).cell? ⟨r0, 0, none⟩ = some (.bool false) := fun o => by
      have p := cell_of ((World.putObj_heap_other (o := o) (fun e => ne e.symm)).trans (E1.out)) 0
      simpa using p
    refine ⟨by simp, .inl ⟨_, _, rfl, run_takeDeferred (hK), ?_⟩⟩
    exact ⟨_, within_result _ _ r0 _ rfl (Z _), by rw [HE.out], ((C0.out.trans C2.out).trans' HC1.out (fun z hz => by simp at hz; rcases hz with rfl | rfl; exact .inr gw; exact .inr (Nat.le_of_eq HR.out))).putl dw⟩
end
section
open Go.RowKit Go.Lib
set_option linter.unusedSimpArgs false
set_option linter.unusedVariables false


def cmpS (x : Sp) (n s : Int) : Int := if x.1 < n ∨ x.1 = n ∧ x.2.2 < s then -1 else if n < x.1 ∨ s < x.2.1 then 1 else 0
theorem cmp_zero {x : Sp} {n s : Int} : cmpS x n s = 0 ↔ InS x n s := by
  unfold cmpS InS
  split
  · constructor
    · intro h; exact absurd h (by decide)
    · intro h; omega
  · split
    · constructor
      · intro h; exact absurd h (by decide)
      · intro h; omega
    · constructor
      · intro _; omega
      · intro _; rfl
theorem cmp_neg {x : Sp} {n s : Int} : cmpS x n s < 0 ↔ x.1 < n ∨ x.1 = n ∧ x.2.2 < s := by
  unfold cmpS
  split
  · rename_i h; exact ⟨fun _ => h, fun _ => by decide⟩
  · rename_i h
    split <;> exact ⟨fun q => absurd q (by decide), fun q => absurd q h⟩
theorem norm_at {l : List Sp} (h : Norm l) {p q : Nat} {x y : Sp} (hx : l[p]? = some x) (hy : l[q]? = some y) (hl : p < q) : Ap x y ∧ SpOk x ∧ SpOk y := by
  have hp := List.getElem?_eq_some_iff.1 hx
  have hq := List.getElem?_eq_some_iff.1 hy
  obtain ⟨l1, e1⟩ := hp
  obtain ⟨l2, e2⟩ := hq
  refine ⟨?_, h.1 x (List.mem_of_getElem? hx), h.1 y (List.mem_of_getElem? hy)⟩
  have := List.pairwise_iff_getElem.1 h.2 p q l1 l2 hl
  rw [e1, e2] at this
  exact this
def LoS (xs : List Sp) (n s : Int) (i : Nat) : Prop := ∀ p x, xs[p]? = some x → p < i → cmpS x n s < 0
def HiS (xs : List Sp) (n s : Int) (j : Nat) : Prop := ∀ p x, xs[p]? = some x → j ≤ p → ¬ cmpS x n s < 0
theorem lo_next {xs : List Sp} {n s : Int} (hn : Norm xs) {h : Nat} {x : Sp} (hx : xs[h]? = some x) (hc : cmpS x n s < 0) : LoS xs n s (h + 1) := by
  intro p y hy hp
  by_cases e : p = h
  · subst e; rw [hx] at hy; cases hy; exact hc
  · obtain ⟨a, o1, o2⟩ := norm_at hn hy hx (by omega)
    rw [cmp_neg] at hc ⊢
    unfold Ap SpOk at *
    omega
theorem hi_next {xs : List Sp} {n s : Int} (hn : Norm xs) {h : Nat} {x : Sp} (hx : xs[h]? = some x) (hc : ¬ cmpS x n s < 0) : HiS xs n s h := by
  intro p y hy hp
  by_cases e : p = h
  · subst e; rw [hx] at hy; cases hy; exact hc
  · obtain ⟨a, o1, o2⟩ := norm_at hn hx hy (by omega)
    rw [cmp_neg] at hc ⊢
    unfold Ap SpOk at *
    omega
theorem found_yes {xs : List Sp} {n s : Int} {i : Nat} {x : Sp} (hx : xs[i]? = some x) (hc : cmpS x n s = 0) : Mem xs n s := ⟨x, List.mem_of_getElem? hx, cmp_zero.1 hc⟩
theorem found_no {xs : List Sp} {n s : Int} (hn : Norm xs) {i : Nat} (hl : LoS xs n s i) (hh : HiS xs n s i) (hx : ∀ x, xs[i]? = some x → cmpS x n s ≠ 0) : ¬ Mem xs n s := by
  rintro ⟨y, hy, hi⟩
  obtain ⟨q, hq, rfl⟩ := List.getElem_of_mem hy
  have hz : cmpS xs[q] n s = 0 := cmp_zero.2 hi
  have hqe := List.getElem?_eq_getElem hq
  rcases Nat.lt_trichotomy q i with h | h | h
  · have := hl q _ hqe h; omega
  · subst h; exact hx _ hqe hz
  · have hie := List.getElem?_eq_getElem (show i < xs.length by omega)
    obtain ⟨a, o1, o2⟩ := norm_at hn hie hqe h
    have := hh i _ hie (Nat.le_refl _)
    rw [cmp_neg] at this
    unfold Ap SpOk InS at *
    omega
set_option maxRecDepth 100000 in
set_option maxHeartbeats 4000000 in
theorem has1_any (w : World) (x : Sp) (n s : Int) : Calls Try.prog 60 #[.agg #[.int .i64 x.1, .int .i64 x.2.1, .int .i64 x.2.2], .agg #[.int .i64 n, .int .i64 s]] w fun e w' => e = .returned (.int .i64 (cmpS x n s)) ∧ Chg [] w w' := by
  obtain ⟨w1, hw1, c1, b0, b1⟩ := news2 w (.cells #[.int .i64 x.1, .int .i64 x.2.1, .int .i64 x.2.2] 62) (.cells #[.int .i64 n, .int .i64 s] 37)
  have W1 := Lib.hid hw1
  have C1 := Lib.hid c1
  have y0 := cell_of b0 0
  have y1 := cell_of b0 1
  have y2 := cell_of b0 2
  have z0 := cell_of b1 0
  have z1 := cell_of b1 1
  simp only [List.getElem?_toArray, List.getElem?_cons_succ, List.getElem?_cons_zero] at y0 y1 y2 z0 z1
  clear hw1 c1 b0 b1
  have fin : ∀ v, cmpS x n s = v → Calls Try.prog 60 #[.agg #[.int .i64 x.1, .int .i64 x.2.1, .int .i64 x.2.2], .agg #[.int .i64 n, .int .i64 s]] w (fun e w' => e = .returned (.int .i64 v) ∧ Chg [] w w') → Calls Try.prog 60 #[.agg #[.int .i64 x.1, .int .i64 x.2.1, .int .i64 x.2.2], .agg #[.int .i64 n, .int .i64 s]] w fun e w' => e = .returned (.int .i64 (cmpS x n s)) ∧ Chg [] w w' := fun v hv h => hv ▸ h
  obtain ⟨x1, x2, x3⟩ := x
  dsimp only at *
  rcases Int.lt_trichotomy x1 n with h | h | h
  · have f1 : x1 < n := h
    refine fin (-1) (by unfold cmpS; exact if_pos (.inl h)) ?_
    clear fin
    go_enter Try.func60, Try.ntmps60
    go_upto_region 1 with fail
    rw [← W1.out]
    generalize w.heap.size = g0 at *
    go_wp2
    go_ret
    exact ⟨rfl, C1.out⟩
  · subst h
    have f0 : ¬ x1 < x1 := by omega
    have f3 : ((x1 == x1) : Bool) = true := by simp
    by_cases h2 : x3 < s
    · skip
      refine fin (-1) (by unfold cmpS; exact if_pos (.inr ⟨rfl, h2⟩)) ?_
      clear fin
      go_enter Try.func60, Try.ntmps60
      go_upto_region 1 with fail
      rw [← W1.out]
      generalize w.heap.size = g0 at *
      go_wp2
      go_ret
      exact ⟨rfl, C1.out⟩
    by_cases h3 : s < x2
    · skip
      refine fin (1) (by unfold cmpS; rw [if_neg (by simp only; omega)]; exact if_pos (.inr h3)) ?_
      clear fin
      go_enter Try.func60, Try.ntmps60
      go_upto_region 1 with fail
      rw [← W1.out]
      generalize w.heap.size = g0 at *
      go_wp2
      go_ret
      exact ⟨rfl, C1.out⟩
    refine fin (0) (by unfold cmpS; rw [if_neg (by simp only; omega)]; exact if_neg (by simp only; omega)) ?_
    clear fin
    go_enter Try.func60, Try.ntmps60
    go_upto_region 1 with fail
    rw [← W1.out]
    generalize w.heap.size = g0 at *
    go_wp2
    go_ret
    exact ⟨rfl, C1.out⟩
  · have f1 : ¬ x1 < n := by omega
    have f3 : ((x1 == n) : Bool) = false := by simp; omega
    refine fin (1) (by unfold cmpS; rw [if_neg (by simp only; omega)]; exact if_pos (.inl h)) ?_
    clear fin
    go_enter Try.func60, Try.ntmps60
    go_upto_region 1 with fail
    rw [← W1.out]
    generalize w.heap.size = g0 at *
    go_wp2
    go_ret
    exact ⟨rfl, C1.out⟩
end
section
open Go.RowKit Go.Lib
set_option linter.unusedSimpArgs false
set_option linter.unusedVariables false


set_option maxRecDepth 100000 in
set_option maxHeartbeats 8000000 in
theorem binspan_any (w : World) (A : Option Addr) (c : Nat) (xs : List Sp) (n s : Int) (h : RdK spanTy w A xs.length xs) (hn : Norm xs) (hl : xs.length ≤ 4000) :
    Calls Try.prog 59 #[.slice A xs.length c, .agg #[.int .i64 n, .int .i64 s], .func (.func 60) #[] #[]] w fun e w' => ∃ i : Int, e = .returned (.tuple #[.int .i64 i, .bool (decide (Mem xs n s))]) ∧ Chg [] w w' := by
  have HX := Lib.hid h
  have HNM := Lib.hid hn
  have HL := Lib.hid hl
  clear h hn hl
  obtain ⟨w1, hw1, c1, b1⟩ := news1 w (.cells #[.int .i64 n, .int .i64 s] 37)
  have W1 := Lib.hid hw1
  have C1 := Lib.hid c1
  have B1 := Lib.hid b1
  clear hw1 c1 b1
  go_enter Try.func59, Try.ntmps59
  go_upto_region 2 with fail
  rw [← W1.out]
  generalize w.heap.size = g0 at *
  clear W1
  go_wp2
  go_loopw [9, 10] (fun v9 v10 wr => ∃ (i j : Nat), i ≤ j ∧ j ≤ xs.length ∧ v9 = .int .i64 (i : Int) ∧ v10 = .int .i64 (j : Int) ∧ Hid (LoS xs n s i ∧ HiS xs n s j) ∧ Hid (Chg [] w1 wr)) (fun v9 v10 _ => (RowKit.intOf v10).toNat - (RowKit.intOf v9).toNat)
  case atStart => exact ⟨0, xs.length, Nat.zero_le _, Nat.le_refl _, rfl, rfl, Lib.hid ⟨fun p x _ h => absurd h (by omega), fun p x hx h => absurd ((List.getElem?_eq_some_iff.1 hx).1) (by omega)⟩, Chg.refl _ _⟩
  case round =>
    obtain ⟨i, j, hij, hj, rfl, rfl, HI, HC⟩ := hrel
    have i0 : (0 : Int) ≤ (i : Int) := by omega
    have hl := HL.out
    have i1 : IntKind.i64.wrap ((i : Int) + (j : Int)) = ((i + j : Nat) : Int) := by rw [IntWalk.i64_in _ (by omega)]; omega
    by_cases hlt : i < j
    · have i2 : (i : Int) < (j : Int) := by omega
      go_upto_region 5 with fail
      obtain ⟨k, hk⟩ : ∃ k : Nat, k = (i + j) / 2 := ⟨_, rfl⟩
      have e1 : ((i : Int) + (j : Int)) / 2 = (k : Int) := by omega
      rw [e1]
      have hk1 : i ≤ k ∧ k < j := by omega
      clear hk e1 i1 i2
      obtain ⟨x, hx⟩ : ∃ x, xs[k]? = some x := ⟨_, List.getElem?_eq_getElem (by omega)⟩
      have R4 := (HX.out.chg C1.out (by simp)).chg HC.out (by simp)
      obtain ⟨g, o, eA, _⟩ := R4.line (by omega)
      subst eA
      obtain ⟨q0, q1, q2⟩ := spanCells R4 hx
      have b4 := HC.out.at_ B1.out (by simp)
      have d0 := cell_of b4 0
      have d1 := cell_of b4 1
      simp only [List.getElem?_toArray, List.getElem?_cons_succ, List.getElem?_cons_zero] at d0 d1
      have k0 : (0 : Int) ≤ (k : Int) := by omega
      have k1 : (k : Int) < (xs.length : Int) := by omega
      have HX5 := Lib.hid hx
      clear R4 b4 hx
      refine wp_region_held_drew (S := fun w' => w'.cell? ⟨g, o + k * 3, none⟩ = some (.int .i64 x.1) ∧ w'.cell? ⟨g, o + k * 3 + 1, none⟩ = some (.int .i64 x.2.1) ∧ w'.cell? ⟨g, o + k * 3 + 2, none⟩ = some (.int .i64 x.2.2) ∧ w'.cell? ⟨g0, 0, none⟩ = some (.int .i64 n) ∧ w'.cell? ⟨g0, 1, none⟩ = some (.int .i64 s)) (by kernel_rfl) ⟨q0, q1, q2, d0, d1⟩ (fun hHeld => ?_)
      have CD := Lib.hid (Chg.refl [] wr).drew
      have HH := Lib.hid (fun (w' : World) (hc : Chg [] wr.drew w') => (⟨(CD.out.trans hc).cell q0 (by simp), (CD.out.trans hc).cell q1 (by simp), (CD.out.trans hc).cell q2 (by simp), (CD.out.trans hc).cell d0 (by simp), (CD.out.trans hc).cell d1 (by simp)⟩ : w'.cell? ⟨g, o + k * 3, none⟩ = some (.int .i64 x.1) ∧ w'.cell? ⟨g, o + k * 3 + 1, none⟩ = some (.int .i64 x.2.1) ∧ w'.cell? ⟨g, o + k * 3 + 2, none⟩ = some (.int .i64 x.2.2) ∧ w'.cell? ⟨g0, 0, none⟩ = some (.int .i64 n) ∧ w'.cell? ⟨g0, 1, none⟩ = some (.int .i64 s)))
      clear q0 q1 q2 d0 d1
      generalize wr.drew = wd at *
      refine sy 0 24 rfl rfl ?_
      try simp only [Act.put, sA, s0, s1]
      refine sy 1 25 rfl rfl ?_
      try simp only [Act.put, sA, s0, s1]
      refine sy 2 26 rfl rfl ?_
      try simp only [Act.put, sA, s0, s1]
      refine sy 3 27 rfl rfl ?_
      try simp only [Act.put, sA, s0, s1]
      refine sy 4 28 rfl rfl ?_ (hy := by (intro w hSw; (try dsimp only at hSw); obtain ⟨q0, q1, q2, q3, q4⟩ := hSw; go_simp; try with_reducible rfl))
      try simp only [Act.put, sA, s0, s1]
      refine sy 5 29 rfl rfl ?_ (hy := by (intro w hSw; (try dsimp only at hSw); obtain ⟨q0, q1, q2, q3, q4⟩ := hSw; go_simp; try with_reducible rfl))
      try simp only [Act.put, sA, s0, s1]
      refine wpAnyH_ready (rs := [6]) (by kernel_rfl) (by simp) ?_
      refine AllReadyH.cons rfl (fun K hK => ?_) AllReadyH.nil
      replace hK := Lib.hid hK
      go_simp
      refine (has1_any wd x n s).mono ?_
      rintro r w6 ⟨rfl, h6⟩
      have C6 := Lib.hid h6
      clear h6 hHeld
      refine hK.out _ _ (HH.out w6 C6.out) (fun hHeld => ?_)
      clear hK K
      try simp only [Act.put, sA, s0, s1]
      refine sy 7 31 rfl rfl ?_
      try simp only [Act.put, sA, s0, s1]
      refine wpAnyH_done (by kernel_rfl) ?_ _
      clear hHeld HH
      have CE := Lib.hid (HC.out.trans (CD.out.trans C6.out))
      by_cases hneg : cmpS x n s < 0
      · have LO := Lib.hid (lo_next HNM.out HX5.out hneg)
        have dn1 : decide (cmpS x n s < 0) = true := decide_eq_true hneg
        have w1' : IntKind.i64.wrap ((k : Int) + 1) = (k : Int) + 1 := IntWalk.i64_in _ (by omega)
        go_wp2
        go_round
        case rel => exact ⟨k + 1, j, by omega, hj, by go_num, rfl, Lib.hid ⟨LO.out, HI.out.2⟩, CE.out⟩
        case measure => simp [RowKit.intOf]; omega
      · have HIN := Lib.hid (hi_next HNM.out HX5.out hneg)
        have dn1 : decide (cmpS x n s < 0) = false := decide_eq_false hneg
        go_wp2
        go_round
        case rel => exact ⟨i, k, by omega, by omega, rfl, rfl, Lib.hid ⟨HI.out.1, HIN.out⟩, CE.out⟩
        case measure => simp [RowKit.intOf]; omega
    · obtain rfl : i = j := by omega
      have i2 : ¬ (i : Int) < (i : Int) := by omega
      by_cases hin : i < xs.length
      · have k1 : (i : Int) < (xs.length : Int) := by omega
        have k2 : decide ((i : Int) < (xs.length : Int)) = true := by simp; omega
        have k3 : decide (i < xs.length) = true := by simp; omega
        obtain ⟨x, hx⟩ : ∃ x, xs[i]? = some x := ⟨_, List.getElem?_eq_getElem hin⟩
        have R4 := (HX.out.chg C1.out (by simp)).chg HC.out (by simp)
        obtain ⟨g, o, eA, _⟩ := R4.line (by omega)
        subst eA
        obtain ⟨q0, q1, q2⟩ := spanCells R4 hx
        have b4 := HC.out.at_ B1.out (by simp)
        have d0 := cell_of b4 0
        have d1 := cell_of b4 1
        simp only [List.getElem?_toArray, List.getElem?_cons_succ, List.getElem?_cons_zero] at d0 d1
        have ANS : Hid (decide (Mem xs n s) = decide (cmpS x n s = 0)) := Lib.hid (by
          by_cases hz : cmpS x n s = 0
          · rw [decide_eq_true (found_yes hx hz), decide_eq_true hz]
          · rw [decide_eq_false (found_no HNM.out HI.out.1 HI.out.2 (fun y hy => by rw [hx] at hy; cases hy; exact hz)), decide_eq_false hz])
        clear R4 b4 hx
        go_upto_region 8 with fail
        refine wp_region_held_drew (S := fun w' => w'.cell? ⟨g, o + i * 3, none⟩ = some (.int .i64 x.1) ∧ w'.cell? ⟨g, o + i * 3 + 1, none⟩ = some (.int .i64 x.2.1) ∧ w'.cell? ⟨g, o + i * 3 + 2, none⟩ = some (.int .i64 x.2.2) ∧ w'.cell? ⟨g0, 0, none⟩ = some (.int .i64 n) ∧ w'.cell? ⟨g0, 1, none⟩ = some (.int .i64 s)) (by kernel_rfl) ⟨q0, q1, q2, d0, d1⟩ (fun hHeld => ?_)
        have CD := Lib.hid (Chg.refl [] wr).drew
        have HH := Lib.hid (fun (w' : World) (hc : Chg [] wr.drew w') => (⟨(CD.out.trans hc).cell q0 (by simp), (CD.out.trans hc).cell q1 (by simp), (CD.out.trans hc).cell q2 (by simp), (CD.out.trans hc).cell d0 (by simp), (CD.out.trans hc).cell d1 (by simp)⟩ : w'.cell? ⟨g, o + i * 3, none⟩ = some (.int .i64 x.1) ∧ w'.cell? ⟨g, o + i * 3 + 1, none⟩ = some (.int .i64 x.2.1) ∧ w'.cell? ⟨g, o + i * 3 + 2, none⟩ = some (.int .i64 x.2.2) ∧ w'.cell? ⟨g0, 0, none⟩ = some (.int .i64 n) ∧ w'.cell? ⟨g0, 1, none⟩ = some (.int .i64 s)))
        clear q0 q1 q2 d0 d1 i2
        generalize wr.drew = wd at *
        refine sy 0 35 rfl rfl ?_
        try simp only [Act.put, sA, s0, s1]
        refine sy 1 36 rfl rfl ?_
        try simp only [Act.put, sA, s0, s1]
        refine sy 2 37 rfl rfl ?_
        try simp only [Act.put, sA, s0, s1]
        refine sy 3 38 rfl rfl ?_
        try simp only [Act.put, sA, s0, s1]
        refine sy 4 39 rfl rfl ?_
        try simp only [Act.put, sA, s0, s1]
        refine sy 5 40 rfl rfl ?_
        try simp only [Act.put, sA, s0, s1]
        refine sy 6 41 rfl rfl ?_
        try simp only [Act.put, sA, s0, s1]
        refine sy 7 42 rfl rfl ?_
        try simp only [Act.put, sA, s0, s1]
        refine sy 8 43 rfl rfl ?_
        try simp only [Act.put, sA, s0, s1]
        refine sy 9 44 rfl rfl ?_ (hy := by (intro w hSw; (try dsimp only at hSw); obtain ⟨q0, q1, q2, q3, q4⟩ := hSw; go_simp; try with_reducible rfl))
        try simp only [Act.put, sA, s0, s1]
        refine sy 10 45 rfl rfl ?_ (hy := by (intro w hSw; (try dsimp only at hSw); obtain ⟨q0, q1, q2, q3, q4⟩ := hSw; go_simp; try with_reducible rfl))
        try simp only [Act.put, sA, s0, s1]
        refine wpAnyH_ready (rs := [11]) (by kernel_rfl) (by simp) ?_
        refine AllReadyH.cons rfl (fun K hK => ?_) AllReadyH.nil
        replace hK := Lib.hid hK
        go_simp
        refine (has1_any wd x n s).mono ?_
        rintro r w6 ⟨rfl, h6⟩
        have C6 := Lib.hid h6
        clear h6 hHeld
        refine hK.out _ _ (HH.out w6 C6.out) (fun hHeld => ?_)
        clear hK K
        try simp only [Act.put, sA, s0, s1]
        refine sy 12 47 rfl rfl ?_
        try simp only [Act.put, sA, s0, s1]
        refine sy 13 48 rfl rfl ?_
        try simp only [Act.put, sA, s0, s1]
        refine sy 14 6 rfl rfl ?_
        try simp only [Act.put, sA, s0, s1]
        refine sy 15 7 rfl rfl ?_
        try simp only [Act.put, sA, s0, s1]
        refine wpAnyH_done (by kernel_rfl) ?_ _
        clear hHeld HH
        have CE := Lib.hid (C1.out.trans (HC.out.trans (CD.out.trans C6.out)))
        by_cases hz : cmpS x n s = 0
        · have AN : decide (Mem xs n s) = true := by rw [ANS.out, decide_eq_true hz]
          have dz : ((cmpS x n s == 0) : Bool) = true := by simpa using hz
          clear ANS hz
          go_wp2
          go_ret2
          (first | exact ⟨(i : Int), by show Ending.returned (.tuple #[.int .i64 (i : Int), .bool (cmpS x n s == 0)]) = _; rw [dz, AN], CE.out⟩ | exact ⟨⟨(i : Int), by show Ending.returned (.tuple #[.int .i64 (i : Int), .bool false]) = _; first | rfl | rw [AN]⟩, CE.out⟩)
        · have AN : decide (Mem xs n s) = false := by rw [ANS.out, decide_eq_false hz]
          have dz : ((cmpS x n s == 0) : Bool) = false := by simpa using hz
          clear ANS hz
          go_wp2
          go_ret2
          (first | exact ⟨(i : Int), by show Ending.returned (.tuple #[.int .i64 (i : Int), .bool (cmpS x n s == 0)]) = _; rw [dz, AN], CE.out⟩ | exact ⟨⟨(i : Int), by show Ending.returned (.tuple #[.int .i64 (i : Int), .bool false]) = _; first | rfl | rw [AN]⟩, CE.out⟩)
      · have k1 : ¬ (i : Int) < (xs.length : Int) := by omega
        have k2 : decide ((i : Int) < (xs.length : Int)) = false := by simp; omega
        have k3 : decide (i < xs.length) = false := by simp; omega
        have ANS : Hid (decide (Mem xs n s) = false) := Lib.hid (decide_eq_false (found_no HNM.out HI.out.1 HI.out.2 (fun y hy => absurd ((List.getElem?_eq_some_iff.1 hy).1) hin)))
        go_upto_region 8 with fail
        refine wp_region_held_drew (S := fun _ => True) (by kernel_rfl) trivial (fun hHeld => ?_)
        have CD := Lib.hid (Chg.refl [] wr).drew
        generalize wr.drew = wd at *
        clear i2
        refine sy 0 35 rfl rfl ?_ (hS := trivial)
        try simp only [Act.put, sA, s0, s1]
        refine sy 1 36 rfl rfl ?_ (hS := trivial)
        try simp only [Act.put, sA, s0, s1]
        refine sy 2 37 rfl rfl ?_ (hS := trivial)
        try simp only [Act.put, sA, s0, s1]
        refine sy 3 38 rfl rfl ?_ (hS := trivial)
        try simp only [Act.put, sA, s0, s1]
        refine sy 4 39 rfl rfl ?_ (hS := trivial)
        try simp only [Act.put, sA, s0, s1]
        refine sn 5 40 rfl rfl ?_ (hS := trivial)
        try simp only [Act.put, sA, s0, s1]
        refine sn 6 41 rfl rfl ?_ (hS := trivial)
        try simp only [Act.put, sA, s0, s1]
        refine sn 7 42 rfl rfl ?_ (hS := trivial)
        try simp only [Act.put, sA, s0, s1]
        refine sn 8 43 rfl rfl ?_ (hS := trivial)
        try simp only [Act.put, sA, s0, s1]
        refine sn 9 44 rfl rfl ?_ (hS := trivial)
        try simp only [Act.put, sA, s0, s1]
        refine sn 10 45 rfl rfl ?_ (hS := trivial)
        try simp only [Act.put, sA, s0, s1]
        refine sn 11 46 rfl rfl ?_ (hS := trivial)
        try simp only [Act.put, sA, s0, s1]
        refine sn 12 47 rfl rfl ?_ (hS := trivial)
        try simp only [Act.put, sA, s0, s1]
        refine sy 13 48 rfl rfl ?_ (hS := trivial)
        try simp only [Act.put, sA, s0, s1]
        refine sy 14 6 rfl rfl ?_ (hS := trivial)
        try simp only [Act.put, sA, s0, s1]
        refine sy 15 7 rfl rfl ?_ (hS := trivial)
        try simp only [Act.put, sA, s0, s1]
        refine wpAnyH_done (by kernel_rfl) ?_ _
        clear hHeld
        have CE := Lib.hid (C1.out.trans (HC.out.trans CD.out))
        have AN := ANS.out
        go_wp2
        go_ret2
        (first | exact ⟨(i : Int), by show Ending.returned (.tuple #[.int .i64 (i : Int), .bool (cmpS x n s == 0)]) = _; rw [dz, AN], CE.out⟩ | exact ⟨⟨(i : Int), by show Ending.returned (.tuple #[.int .i64 (i : Int), .bool false]) = _; first | rfl | rw [AN]⟩, CE.out⟩)
end
section
open Go.RowKit Go.Lib
set_option linter.unusedSimpArgs false
set_option linter.unusedVariables false


def hasE (xs : List Sp) (n s : Int) : Bool := decide (chkS xs = 0) && decide (Mem xs n s)
set_option maxRecDepth 100000 in
set_option maxHeartbeats 4000000 in
theorem has_any (w : World) (A : Option Addr) (c : Nat) (xs : List Sp) (n s : Int) (h : RdK spanTy w A xs.length xs) (hn : xs.length ≤ 140737488351232) :
    Calls Try.prog 26 #[.slice A xs.length c, .agg #[.int .i64 n, .int .i64 s]] w fun e w' => e = .returned (.bool (hasE xs n s)) ∧ Chg [] w w' := by
  obtain ⟨w0, hw0, c0, b0⟩ := news1 w (.cells #[.int .i64 n, .int .i64 s] 37)
  have W0 := Lib.hid hw0
  have C0 := Lib.hid c0
  have B0 := Lib.hid b0
  have H := Lib.hid (h.chg c0 (by simp))
  have HN := Lib.hid hn
  clear hw0 c0 b0 h hn
  rcases chk_two xs with e1 | e1
  · have eH : hasE xs n s = decide (Mem xs n s) := by unfold hasE; rw [decide_eq_true e1]; rfl
    rw [eH]
    have WF := Lib.hid (wf_of_chk e1)
    clear eH
    go_enter Try.func26, Try.ntmps26
    go_wp2_with fail
    rw [← W0.out]
    generalize w.heap.size = g0 at *
    refine (pacheck_any w0 A _ c xs H.out HN.out).mono ?_
    rintro e w1 ⟨rfl, h1⟩
    rw [e1]
    have C1 := Lib.hid h1
    have b1 := h1.at_ B0.out (by simp)
    have z0 := cell_of b1 0
    have z1 := cell_of b1 1
    simp only [List.getElem?_toArray, List.getElem?_cons_succ, List.getElem?_cons_zero] at z0 z1
    clear h1 b1
    go_wp2_with fail
    refine (binspan_any w1 A c xs n s (H.out.chg C1.out (by simp)) WF.out.1.1 WF.out.2).mono ?_
    rintro e w2 ⟨i, rfl, h2⟩
    have C2 := Lib.hid (C0.out.trans (C1.out.trans h2))
    clear h2 z0 z1
    generalize hbb : decide (Mem xs n s) = b at *
    have HBB := Lib.hid hbb
    clear hbb
    go_wp2
    go_ret
    have e9 := HBB.out
    subst e9
    exact ⟨rfl, C2.out⟩
  · have eH : hasE xs n s = false := by unfold hasE; rw [decide_eq_false (by omega)]; rfl
    rw [eH]
    clear eH
    go_enter Try.func26, Try.ntmps26
    go_wp2_with fail
    rw [← W0.out]
    generalize w.heap.size = g0 at *
    refine (pacheck_any w0 A _ c xs H.out HN.out).mono ?_
    rintro e w1 ⟨rfl, h1⟩
    rw [e1]
    have C1 := Lib.hid h1
    clear h1
    go_wp2
    go_ret
    exact ⟨rfl, C0.out.trans C1.out⟩
end
section
open Go.RowKit Go.Lib
set_option linter.unusedSimpArgs false
set_option linter.unusedVariables false


def cntL (xs : List Sp) : Int := xs.foldl (fun n x => n + x.2.2 - x.2.1 + 1) 0
def lastL (node : Int) (xs : List Sp) : Int := xs.foldl (fun n x => if x.1 = node then x.2.2 else n) 0
theorem cnt_snoc (xs : List Sp) (x : Sp) : cntL (xs ++ [x]) = cntL xs + x.2.2 - x.2.1 + 1 := by simp [cntL]
theorem last_snoc (node : Int) (xs : List Sp) (x : Sp) : lastL node (xs ++ [x]) = if x.1 = node then x.2.2 else lastL node xs := by simp [lastL]
def Fin (xs : List Sp) : Prop := ∀ x ∈ xs, B3 x
theorem cnt_small : ∀ (k : Nat) (xs : List Sp), Fin xs → xs.length ≤ k → 0 ≤ cntL xs ∧ cntL xs ≤ 2147483648 * k
  | 0, xs, _, hl => by
    have : xs = [] := List.eq_nil_of_length_eq_zero (by omega)
    subst this
    simp [cntL]
  | k + 1, xs, h, hl => by
    rcases List.eq_nil_or_concat xs with rfl | ⟨l, x, rfl⟩
    · simp [cntL]; omega
    · rw [List.concat_eq_append] at h hl ⊢
      rw [cnt_snoc]
      have h1 := cnt_small k l (fun y hy => h y (by simp [hy])) (by simp at hl; omega)
      have h2 := h x (by simp)
      unfold B3 at h2
      omega
theorem fin_of {xs : List Sp} (h : WfC xs) : Fin xs := fun x hx => by
  have := h.2 x hx
  have o := h.1.1 x hx
  unfold B3 SpOk at *
  omega
set_option maxRecDepth 100000 in
theorem countstep_any (w : World) (n : Int) (x : Sp) (hn : 0 ≤ n ∧ n ≤ 2147483648 * 4000) (hx : B3 x) : Calls Try.prog 62 #[.int .i64 n, .agg #[.int .i64 x.1, .int .i64 x.2.1, .int .i64 x.2.2]] w fun e w' => e = .returned (.int .i64 (n + x.2.2 - x.2.1 + 1)) ∧ Chg [] w w' := by
  unfold B3 at hx
  have e1 : IntKind.i64.wrap (n + x.2.2) = n + x.2.2 := IntWalk.i64_in _ (by omega)
  have e2 : IntKind.i64.wrap (n + x.2.2 - x.2.1) = n + x.2.2 - x.2.1 := IntWalk.i64_in _ (by omega)
  have e3 : IntKind.i64.wrap (n + x.2.2 - x.2.1 + 1) = n + x.2.2 - x.2.1 + 1 := IntWalk.i64_in _ (by omega)
  clear hn hx
  go_enter Try.func62, Try.ntmps62
  go_wp2
  go_ret
  exact ⟨rfl, (Chg.refl _ _).alloc _⟩
set_option maxRecDepth 100000 in
theorem laststep_any (w : World) (n : Int) (x : Sp) (b : Nat) (node : Int) (hb : w.heap[b]? = some (.cells #[.int .i64 node] 3 (0, 0))) : Calls Try.prog 63 #[.int .i64 n, .agg #[.int .i64 x.1, .int .i64 x.2.1, .int .i64 x.2.2], .pointer (some ⟨b, 0, none⟩)] w fun e w' => e = .returned (.int .i64 (if x.1 = node then x.2.2 else n)) ∧ Chg [] w w' := by
  obtain ⟨w1, hw1, c1, b1⟩ := news1 w (.cells #[.int .i64 x.1, .int .i64 x.2.1, .int .i64 x.2.2] 62)
  have z := cell_of (c1.at_ hb (by simp)) 0
  simp only [List.getElem?_toArray, List.getElem?_cons_zero] at z
  have W1 := Lib.hid hw1
  have C1 := Lib.hid c1
  have y0 := cell_of b1 0
  have y2 := cell_of b1 2
  simp only [List.getElem?_toArray, List.getElem?_cons_succ, List.getElem?_cons_zero] at y0 y2
  clear hw1 c1 b1 hb
  by_cases h : x.1 = node
  · rw [if_pos h]
    have q : ((x.1 == node) : Bool) = true := by simpa using h
    clear h
    go_enter Try.func63, Try.ntmps63
    go_upto_region 1 with fail
    rw [← W1.out]
    generalize w.heap.size = g0 at *
    go_wp2
    go_ret
    exact ⟨rfl, C1.out⟩
  · rw [if_neg h]
    have q : ((x.1 == node) : Bool) = false := by simpa using h
    clear h
    go_enter Try.func63, Try.ntmps63
    go_upto_region 1 with fail
    rw [← W1.out]
    generalize w.heap.size = g0 at *
    go_wp2
    go_ret
    exact ⟨rfl, C1.out⟩
set_option maxRecDepth 100000 in
set_option maxHeartbeats 4000000 in
theorem foldcount_any (w : World) (A : Option Addr) (c : Nat) (xs : List Sp)  (h : RdK spanTy w A xs.length xs) (hn : xs.length ≤ 4000) (hf : Fin xs) :
    Calls Try.prog 61 #[.slice A xs.length c, .int .i64 0, .func (.func 62) #[] #[]] w fun e w' => e = .returned (.int .i64 (cntL xs)) ∧ Chg [] w w' := by
  have HX := Lib.hid h
  have HY := Lib.hid (hf)
  clear h hf
  go_enter Try.func61, Try.ntmps61
  go_wp2
  go_loopw [1, 11] (fun v1 v11 wr => ∃ (k : Nat), k ≤ xs.length ∧ v1 = .int .i64 (cntL (xs.take k)) ∧ v11 = .int .i64 k ∧ Hid (Chg [] w wr)) (fun _ v11 _ => xs.length - (RowKit.intOf v11).toNat)
  case atStart => exact ⟨0, Nat.zero_le _, rfl, rfl, Chg.refl _ _⟩
  case round =>
    obtain ⟨k, hk, rfl, rfl, HI⟩ := hrel
    generalize wr = w4 at *
    clear wr
    by_cases hlt : k < xs.length
    · have ex := List.getElem?_eq_getElem hlt
      obtain ⟨g, o, eA, _⟩ := HX.out.line (by omega)
      subst eA
      have R4 := HX.out.chg HI.out (by simp)
      generalize hxx : xs[k] = x at *
      obtain ⟨q0, q1, q2⟩ := spanCells R4 ex
      have i0 : (0 : Int) ≤ (k : Int) := by omega
      have i1 : (k : Int) < (xs.length : Int) := by omega
      have e2 : cntL (xs.take (k + 1)) = cntL (xs.take k) + x.2.2 - x.2.1 + 1 := by rw [List.take_add_one, ex]; exact cnt_snoc _ _
      have E2 := Lib.hid e2
      have EX := Lib.hid ex
      have LK := Lib.hid (show (xs.take k).length ≤ 4000 by rw [List.length_take]; omega)
      have SUB := Lib.hid (fun y (hy : y ∈ xs.take k) => List.mem_of_mem_take hy)
      clear R4 ex e2 hxx
      generalize hm : cntL (xs.take k) = m at *
      have HM := Lib.hid hm
      clear hm
      obtain ⟨w5, hw5, c5, b5⟩ := news1 w4 (.cells #[.int .i64 x.1, .int .i64 x.2.1, .int .i64 x.2.2] 62)
      have W5 := Lib.hid hw5
      have B5 := Lib.hid b5
      have C5 := Lib.hid (HI.out.trans c5)
      clear hw5 c5
      go_upto_region 4 with fail
      rw [← W5.out]
      generalize w4.heap.size = g4 at *
      have y0 := cell_of B5.out 0
      have y1 := cell_of B5.out 1
      have y2 := cell_of B5.out 2
      simp only [List.getElem?_toArray, List.getElem?_cons_succ, List.getElem?_cons_zero] at y0 y1 y2
      go_wp2_with fail
      refine (countstep_any w5 m x (by rw [← HM.out]; exact cnt_small 4000 _ (fun y hy => HY.out y (SUB.out y hy)) LK.out) (HY.out x (List.mem_of_getElem? EX.out))).mono ?_
      rintro e w6 ⟨rfl, hcc⟩
      have CE := Lib.hid (C5.out.trans hcc)
      clear hcc q0 q1 q2 y0 y1 y2
      go_wp2
      go_round
      case rel => exact ⟨k + 1, by omega, by rw [E2.out], by go_num, CE.out⟩
      case measure => simp [RowKit.intOf]; omega
    · obtain rfl : k = xs.length := by omega
      rw [show xs.take xs.length = xs from List.take_length]
      go_wp2
      go_ret
      exact ⟨rfl, HI.out⟩
set_option maxRecDepth 100000 in
set_option maxHeartbeats 4000000 in
theorem foldlast_any (w : World) (A : Option Addr) (c : Nat) (xs : List Sp) (b : Nat) (node : Int) (h : RdK spanTy w A xs.length xs) (hn : xs.length ≤ 4000) (hb : w.heap[b]? = some (.cells #[.int .i64 node] 3 (0, 0))) :
    Calls Try.prog 61 #[.slice A xs.length c, .int .i64 0, .func (.func 63) #[] #[.pointer (some ⟨b, 0, none⟩)]] w fun e w' => e = .returned (.int .i64 (lastL node xs)) ∧ Chg [] w w' := by
  have HX := Lib.hid h
  have HY := Lib.hid (hb)
  clear h hb
  go_enter Try.func61, Try.ntmps61
  go_wp2
  go_loopw [1, 11] (fun v1 v11 wr => ∃ (k : Nat), k ≤ xs.length ∧ v1 = .int .i64 (lastL node (xs.take k)) ∧ v11 = .int .i64 k ∧ Hid (Chg [] w wr)) (fun _ v11 _ => xs.length - (RowKit.intOf v11).toNat)
  case atStart => exact ⟨0, Nat.zero_le _, rfl, rfl, Chg.refl _ _⟩
  case round =>
    obtain ⟨k, hk, rfl, rfl, HI⟩ := hrel
    generalize wr = w4 at *
    clear wr
    by_cases hlt : k < xs.length
    · have ex := List.getElem?_eq_getElem hlt
      obtain ⟨g, o, eA, _⟩ := HX.out.line (by omega)
      subst eA
      have R4 := HX.out.chg HI.out (by simp)
      generalize hxx : xs[k] = x at *
      obtain ⟨q0, q1, q2⟩ := spanCells R4 ex
      have i0 : (0 : Int) ≤ (k : Int) := by omega
      have i1 : (k : Int) < (xs.length : Int) := by omega
      have e2 : lastL node (xs.take (k + 1)) = if x.1 = node then x.2.2 else lastL node (xs.take k) := by rw [List.take_add_one, ex]; exact last_snoc _ _ _
      have E2 := Lib.hid e2
      have EX := Lib.hid ex
      have LK := Lib.hid (show (xs.take k).length ≤ 4000 by rw [List.length_take]; omega)
      have SUB := Lib.hid (fun y (hy : y ∈ xs.take k) => List.mem_of_mem_take hy)
      clear R4 ex e2 hxx
      generalize hm : lastL node (xs.take k) = m at *
      have HM := Lib.hid hm
      clear hm
      obtain ⟨w5, hw5, c5, b5⟩ := news1 w4 (.cells #[.int .i64 x.1, .int .i64 x.2.1, .int .i64 x.2.2] 62)
      have W5 := Lib.hid hw5
      have B5 := Lib.hid b5
      have C5 := Lib.hid (HI.out.trans c5)
      clear hw5 c5
      go_upto_region 4 with fail
      rw [← W5.out]
      generalize w4.heap.size = g4 at *
      have y0 := cell_of B5.out 0
      have y1 := cell_of B5.out 1
      have y2 := cell_of B5.out 2
      simp only [List.getElem?_toArray, List.getElem?_cons_succ, List.getElem?_cons_zero] at y0 y1 y2
      go_wp2_with fail
      refine (laststep_any w5 m x b node (C5.out.at_ HY.out (by simp))).mono ?_
      rintro e w6 ⟨rfl, hcc⟩
      have CE := Lib.hid (C5.out.trans hcc)
      clear hcc q0 q1 q2 y0 y1 y2
      go_wp2
      go_round
      case rel => exact ⟨k + 1, by omega, by rw [E2.out], by go_num, CE.out⟩
      case measure => simp [RowKit.intOf]; omega
    · obtain rfl : k = xs.length := by omega
      rw [show xs.take xs.length = xs from List.take_length]
      go_wp2
      go_ret
      exact ⟨rfl, HI.out⟩
set_option maxHeartbeats 2000000 in
theorem count_any (w : World) (A : Option Addr) (c : Nat) (xs : List Sp)  (h : RdK spanTy w A xs.length xs) (hn : xs.length ≤ 140737488351232) :
    Calls Try.prog 28 #[.slice A xs.length c] w fun e w' => e = .returned (.int .i64 (if chkS xs = 0 then cntL xs else 0)) ∧ Chg [] w w' := by
  have H := Lib.hid h
  have HN := Lib.hid hn
  clear h hn
  rcases chk_two xs with e1 | e1
  · rw [if_pos e1]
    have WF := Lib.hid (wf_of_chk e1)
    skip
    go_enter Try.func28, Try.ntmps28
    go_wp2_with fail
    skip
    refine (pacheck_any w A _ c xs H.out HN.out).mono ?_
    rintro e w1 ⟨rfl, h1⟩
    rw [e1]
    have C1 := Lib.hid h1
    clear h1
    go_wp2_with fail
    refine (foldcount_any w1 A c xs (H.out.chg C1.out (by simp)) WF.out.2 (fin_of WF.out.1)).mono ?_
    rintro e w2 ⟨rfl, h2⟩
    have C2 := Lib.hid (C1.out.trans h2)
    clear h2
    go_wp2
    go_ret
    exact ⟨rfl, C2.out⟩
  · rw [if_neg (by omega)]
    skip
    go_enter Try.func28, Try.ntmps28
    go_wp2_with fail
    skip
    refine (pacheck_any w A _ c xs H.out HN.out).mono ?_
    rintro e w1 ⟨rfl, h1⟩
    rw [e1]
    have C1 := Lib.hid h1
    clear h1
    go_wp2
    go_ret
    exact ⟨rfl, C1.out⟩
set_option maxHeartbeats 2000000 in
theorem last_any (w : World) (A : Option Addr) (c : Nat) (xs : List Sp) (node : Int) (h : RdK spanTy w A xs.length xs) (hn : xs.length ≤ 140737488351232) :
    Calls Try.prog 30 #[.slice A xs.length c, .int .i64 node] w fun e w' => e = .returned (.int .i64 (if chkS xs = 0 then lastL node xs else 0)) ∧ Chg [] w w' := by
  have H := Lib.hid h
  have HN := Lib.hid hn
  clear h hn
  rcases chk_two xs with e1 | e1
  · rw [if_pos e1]
    have WF := Lib.hid (wf_of_chk e1)
    obtain ⟨w0, hw0, c0, b0⟩ := news1 w (.cells #[.int .i64 node] 3)
    have W0 := Lib.hid hw0
    have C0 := Lib.hid c0
    have B0 := Lib.hid b0
    replace H := Lib.hid (H.out.chg c0 (by simp))
    clear hw0 c0 b0
    go_enter Try.func30, Try.ntmps30
    go_wp2_with fail
    rw [← W0.out]
    generalize w.heap.size = g0 at *
    refine (pacheck_any w0 A _ c xs H.out HN.out).mono ?_
    rintro e w1 ⟨rfl, h1⟩
    rw [e1]
    have C1 := Lib.hid h1
    clear h1
    go_wp2_with fail
    refine (foldlast_any w1 A c xs g0 node (H.out.chg C1.out (by simp)) WF.out.2 (C1.out.at_ B0.out (by simp))).mono ?_
    rintro e w2 ⟨rfl, h2⟩
    have C2 := Lib.hid (C1.out.trans h2)
    clear h2
    go_wp2
    go_ret
    exact ⟨rfl, C0.out.trans C2.out⟩
  · rw [if_neg (by omega)]
    obtain ⟨w0, hw0, c0, b0⟩ := news1 w (.cells #[.int .i64 node] 3)
    have W0 := Lib.hid hw0
    have C0 := Lib.hid c0
    have B0 := Lib.hid b0
    replace H := Lib.hid (H.out.chg c0 (by simp))
    clear hw0 c0 b0
    go_enter Try.func30, Try.ntmps30
    go_wp2_with fail
    rw [← W0.out]
    generalize w.heap.size = g0 at *
    refine (pacheck_any w0 A _ c xs H.out HN.out).mono ?_
    rintro e w1 ⟨rfl, h1⟩
    rw [e1]
    have C1 := Lib.hid h1
    clear h1
    go_wp2
    go_ret
    exact ⟨rfl, C0.out.trans C1.out⟩
end
section
open Go.RowKit Go.Lib
set_option linter.unusedSimpArgs false
set_option linter.unusedVariables false
end
end Go.Proofs.Ytgafkphhnlifiaa
