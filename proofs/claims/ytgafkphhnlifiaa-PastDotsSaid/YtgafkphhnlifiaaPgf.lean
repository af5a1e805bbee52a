/- What is joined, and left: plain functions. No function of the program is named here. past: what is kept. past: kept hands on what is kept. past: what is kept is merged. past.Join. past.Add. -/
import Derived.Test.YtgafkphhnlifiaaPgb
import Derived.Test.YtgafkphhnlifiaaPsc
import Derived.Test.YtgafkphhnlifiaaPge
import Derived.Deep.Cut
import Derived.Deep.CutRange
import Derived.OwnWalkIn
import Derived.Sort.LoopGhostIn
namespace Go.Proofs.Ytgafkphhnlifiaa
section
set_option linter.unusedSimpArgs false
set_option linter.unusedVariables false
def kE (x y : Bool) : Bool := x || y
def kF (x y : Bool) : Bool := x && !y
/-- The errno, and the past that is told. -/
def boundP (l : List Sp) : Int × List Sp := if 4000 < l.length then (8, []) else (0, l)
def joinE (a b : List Sp) : Int × List Sp := if chkS a = 0 ∧ chkS b = 0 then boundP (tidyS (a ++ b)) else (2, [])
def minusE (a b : List Sp) : Int × List Sp := if chkS a = 0 ∧ chkS b = 0 then boundP (b.foldl withoutP a) else (2, [])
def withinE (a b : List Sp) : Bool := decide (chkS a = 0 ∧ chkS b = 0) && decide (b.foldl withoutP a = [])
theorem memb_iff {l : List Sp} {n s : Int} : memb l n s = true ↔ Mem l n s := by unfold memb; simp
theorem join_eq {a b pre : List Sp} (ha : WfC a) (hb : WfC b) (h : SwInv kE a b [] [] pre) : pre.foldl pushP [] = tidyS (a ++ b) := by
  obtain ⟨c, d⟩ := h.done (by rfl)
  obtain ⟨e, f⟩ := tidy_norm (l := a ++ b) (fun x hx => (List.mem_append.1 hx).elim (fun q => ha.1.1 x q) (fun q => hb.1.1 x q))
  refine norm_ext c e (fun n s => ?_)
  rw [d n s, f n s, mem_append]
  unfold kE
  rw [Bool.or_eq_true, memb_iff, memb_iff]
theorem minus_eq {a b pre : List Sp} (ha : WfC a) (hb : WfC b) (h : SwInv kF a b [] [] pre) : pre.foldl pushP [] = b.foldl withoutP a := by
  obtain ⟨c, d⟩ := h.done (by rfl)
  obtain ⟨e, f⟩ := withouts_norm (b := b) hb.1.1 ha.1
  refine norm_ext c e (fun n s => ?_)
  rw [d n s, f n s]
  unfold kF
  rw [Bool.and_eq_true, memb_iff]
  simp [memb]
theorem minus_some {a b pre : List Sp} {x : Sp} (ha : WfC a) (hb : WfC b) (h : SwInv kF a b [] [] pre) (hx : x ∈ pre) : b.foldl withoutP a ≠ [] := by
  intro e
  have q := minus_eq ha hb h
  rw [e] at q
  obtain ⟨c, d⟩ := h.done (by rfl)
  obtain ⟨c2, d2⟩ := fold_norm (zs := pre) norm_nil h.ok h.up (by simp)
  have m := (d2 x.1 x.2.1).2 (.inr ⟨x, hx, rfl, Int.le_refl _, h.ok x hx⟩)
  rw [q] at m
  exact mem_nil m
end
section
open Go.RowKit Go.Lib
set_option linter.unusedSimpArgs false
set_option linter.unusedVariables false


theorem either_any (w : World) (x y : Bool) : Calls Try.prog 52 #[.bool x, .bool y] w fun e w' => e = .returned (.bool (kE x y)) ∧ Chg [] w w' := by
  cases x <;> cases y
  all_goals
    go_enter Try.func52, Try.ntmps52
    go_wp2
    go_ret
    exact ⟨rfl, Chg.refl _ _⟩
theorem first_any (w : World) (x y : Bool) : Calls Try.prog 54 #[.bool x, .bool y] w fun e w' => e = .returned (.bool (kF x y)) ∧ Chg [] w w' := by
  cases x <;> cases y
  all_goals
    go_enter Try.func54, Try.ntmps54
    go_wp2
    go_ret
    exact ⟨rfl, Chg.refl _ _⟩
theorem RdK.kpt {α : Type} {R : RowTy α} {w w' : World} {n₁ : Nat} {T : List Nat} {A : Option Addr} {n : Nat} {xs : List α} (h : RdK R w A n xs) (hk : Kpt n₁ T w w') (ha : ∀ a, A = some a → a.block < n₁ ∧ a.block ∉ T) : RdK R w' A n xs := by
  refine ⟨h.len, fun j v hj => ?_⟩
  obtain ⟨a, e, hc⟩ := h.cells j v hj
  refine ⟨a, e, ?_⟩
  have := ha a e
  have e2 : (a.add j).block = a.block := by unfold Addr.add; split <;> rfl
  exact (World.cell?_of_block (hk.block (a.add j).block (by rw [e2]; exact this.1) (by rw [e2]; exact this.2))).trans hc
theorem SwP.kpt {w w' : World} {n₁ : Nat} {T : List Nat} {g : Nat} {X : List Nat} {la lb : List Sp} {kf : Nat} (h : SwP w g X la lb kf) (hk : Kpt n₁ T w w') (hg : g < n₁ ∧ g ∉ T) (hX : ∀ z ∈ X, z < n₁ ∧ z ∉ T) : SwP w' g X la lb kf := by
  obtain ⟨A, c, B, d, h⟩ := h
  exact ⟨A, c, B, d, (hk.block g hg.1 hg.2).trans h.hg, h.ra.kpt hk (fun a ha => hX _ (h.na a ha)), h.ca, h.na, h.rb.kpt hk (fun a ha => hX _ (h.nb a ha)), h.cb, h.nb, h.gx⟩
end
section
open Go.RowKit Go.Lib
set_option linter.unusedSimpArgs false
set_option linter.unusedVariables false


set_option maxRecDepth 100000 in
set_option maxHeartbeats 8000000 in
theorem kept_either (n l n₁ g : Nat) (T X : List Nat) (a b : List Sp) (J Jx : List Sp → World → Prop) (W : World) (hg1 : g < n₁ ∧ g ∉ T) (hX : ∀ z ∈ X, z < n₁ ∧ z ∉ T) (hn₁ : n₁ ≤ W.heap.size)
    (hJ : ∀ pre A B, J pre A → Chg [g] A B → J pre B)
    (hY : ∀ pre x W1, J pre W1 → (B3 x ∧ (∀ y ∈ pre, Le y x) ∧ pre.length < potP a b ∧ ∀ n s, InS x n s → kE (memb a n s) (memb b n s) = true) → YieldAt Fence.wide n Try.prog l #[.agg #[.int .i64 x.1, .int .i64 x.2.1, .int .i64 x.2.2]] W1 fun e W' => (e = .returned (.bool true) ∧ J (pre ++ [x]) W' ∧ Kpt n₁ T W1 W') ∨ (e = .returned (.bool false) ∧ Jx (pre ++ [x]) W'))
    (h0 : SwP W g X a b 52) (ha : WfC a) (hb : WfC b) (hj : J [] W) :
    CallsIn Fence.wide (n + 1) Try.prog 58 #[.pointer (some ⟨g, 0, none⟩), .func (.yield l) #[] #[]] W fun e W' => (∃ v, e = .returned v) ∧ ((∃ pre, SwInv kE a b [] [] pre ∧ J pre W') ∨ ∃ pre, Jx pre W') := by
  refine callsIn_of_wp Try.func58 rfl trivial ?_ rfl
  simp only [Try.ntmps58, List.size_toArray, List.length_cons, List.length_nil, Nat.reduceAdd, Nat.reduceSub, Array.replicate_succ, Array.replicate_zero, List.push_toArray, List.append_toArray, List.nil_append, List.cons_append]
  have HK := Lib.hid (fun (w : World) (x y : Bool) => either_any w x y)
  gi_wp2
  gi_loopg [] (dotsN a + dotsN b + 1) (fun G wr => ∃ (la lb pre : List Sp), Hid (SwInv kE a b la lb pre) ∧ Hid (SwP wr g X la lb 52) ∧ J pre wr ∧ Hid (n₁ ≤ wr.heap.size) ∧ dotsN la + dotsN lb < G)
  case atStart => exact ⟨a, b, [], Lib.hid (SwInv.begin ha hb), Lib.hid h0, hj, Lib.hid hn₁, by omega⟩
  case round =>
    obtain ⟨la, lb, pre, HI, HS, hJs, HN, hG⟩ := hrel
    have HJ0 := Lib.hid hJs
    have HG := Lib.hid hG
    clear hJs hG
    by_cases hne : la ≠ [] ∨ lb ≠ []
    rotate_left
    · have ea : la = [] := by by_cases e : la = []; exact e; exact absurd (.inl e) hne
      have eb : lb = [] := by by_cases e : lb = []; exact e; exact absurd (.inr e) hne
      subst ea
      subst eb
      obtain ⟨A, c, B, d, hs⟩ := HS.out
      have z0 := cell_of hs.hg 0
      have z4 := cell_of hs.hg 4
      simp only [List.getElem?_toArray, List.getElem?_cons_succ, List.getElem?_cons_zero, hd_nil] at z0 z4
      clear hs hne
      gi_wp2
      go_end0
      exact ⟨⟨_, rfl⟩, .inl ⟨pre, HI.out, HJ0.out⟩⟩
    have so := step_ok HI.out.wa HI.out.wb hne
    have st := fun hX' => step_any wr g X la lb 52 HS.out hX' HI.out.wa HI.out.wb hne
    replace st := st (fun z hz => by have := (hX z hz).1; have := HN.out; omega)
    have c12 : ((hdP la).1 != 201) = true ∨ ((hdP la).1 != 201) = false ∧ ((hdP lb).1 != 201) = true := by
      cases la with
      | cons x r => left; have := HI.out.wa.2 x (by simp); rw [hd_cons]; simp; omega
      | nil =>
        right
        cases lb with
        | nil => exact absurd rfl (hne.elim id id)
        | cons x r => have := HI.out.wb.2 x (by simp); rw [hd_cons, hd_nil]; simp; omega
    generalize pieceP (hdP la) (hdP lb) = p at so st
    generalize inP (hdP la) (hdP lb) = ia at so st
    generalize inP (hdP lb) (hdP la) = ib at so st
    generalize leftP la ia p.2.2 = la' at so st
    generalize leftP lb ib p.2.2 = lb' at so st
    have KI := Lib.hid (fun w => HK.out w ia ib)
    have SO := Lib.hid so
    have ST := Lib.hid st
    have ND0 := Lib.hid (HI.out.step (k := kE) (by rfl) so)
    clear so st hne
    have OKP : Hid (SpOk p ∧ B3 p) := Lib.hid (by have := SO.out.ok; unfold B3 SpOk at *; omega)
    obtain ⟨A, c, B, d, hs⟩ := HS.out
    have z0 := cell_of hs.hg 0
    have z4 := cell_of hs.hg 4
    simp only [List.getElem?_toArray, List.getElem?_cons_succ, List.getElem?_cons_zero] at z0 z4
    have GLT := Lib.hid (lt_of_heap hs.hg)
    clear hs HS
    generalize (hdP la).1 = ha1 at *
    generalize (hdP lb).1 = hb1 at *
    generalize hkv : kE ia ib = kv at KI ND0
    cases kv
    case false =>
      have ND : Hid (SwInv kE a b la' lb' pre) := Lib.hid (by have := ND0.out; rwa [if_neg (by simp)] at this)
      clear ND0 hkv
      rcases c12 with c1 | ⟨c1, c2⟩
      · skip
        gi_wp2_with (refine ⟨trivial, ?_⟩; gi_at_call 73; refine (callsIn_wide.2 ST.out).mono ?_; rintro e w1 ⟨rfl, h1, h2⟩; obtain ⟨A', c', B', d', hs⟩ := h1; have HQ := Lib.hid hs; have CG := Lib.hid h2; have z8 : (w1.alloc (.cells #[.int .i64 p.1, .int .i64 p.2.1, .int .i64 p.2.2] 62)).cell? ⟨g, 8, none⟩ = some (.func (.func 52) #[] #[]) := ((Chg.refl [] w1).alloc _).cell (show w1.cell? ⟨g, 8, none⟩ = some (.func (.func 52) #[] #[]) from (cell_of hs.hg 8).trans rfl) (by simp); clear hs h2)
        clear z0 z4 c1
        obtain ⟨w2, hw2, c2', b2⟩ := news1 w1 (.cells #[.int .i64 p.1, .int .i64 p.2.1, .int .i64 p.2.2] 62)
        rw [← hw2] at z8 ⊢
        have B2 := Lib.hid b2
        have C2 := Lib.hid (CG.out.trans (c2'.mono (S' := [g]) (by simp)))
        replace HQ := Lib.hid (HQ.out.chg c2' (by simp) (by simp))
        clear hw2 c2' b2
        generalize w1.heap.size = gp at *
        gi_wp2_with (refine ⟨trivial, ?_⟩; gi_at_call 52; refine (callsIn_wide.2 (KI.out _)).mono ?_; rintro e w3 ⟨rfl, hc⟩; have C3 := Lib.hid hc; clear hc)
        refine ⟨(fun f hf => by cases hf), ?_⟩
        gi_wp2
        gi_roundg (dotsN la + dotsN lb)
        case measure => exact HG.out
        case rel => exact ⟨la', lb', pre, ND, Lib.hid ⟨_, _, _, _, HQ.out.chg C3.out (by simp) (by simp)⟩, hJ _ _ _ HJ0.out (C2.out.trans (C3.out.mono (by simp))), Lib.hid (Nat.le_trans HN.out (Nat.le_trans C2.out.size C3.out.size)), SO.out.dec⟩
      · skip
        gi_wp2_with (refine ⟨trivial, ?_⟩; gi_at_call 73; refine (callsIn_wide.2 ST.out).mono ?_; rintro e w1 ⟨rfl, h1, h2⟩; obtain ⟨A', c', B', d', hs⟩ := h1; have HQ := Lib.hid hs; have CG := Lib.hid h2; have z8 : (w1.alloc (.cells #[.int .i64 p.1, .int .i64 p.2.1, .int .i64 p.2.2] 62)).cell? ⟨g, 8, none⟩ = some (.func (.func 52) #[] #[]) := ((Chg.refl [] w1).alloc _).cell (show w1.cell? ⟨g, 8, none⟩ = some (.func (.func 52) #[] #[]) from (cell_of hs.hg 8).trans rfl) (by simp); clear hs h2)
        clear z0 z4 c1 c2
        obtain ⟨w2, hw2, c2', b2⟩ := news1 w1 (.cells #[.int .i64 p.1, .int .i64 p.2.1, .int .i64 p.2.2] 62)
        rw [← hw2] at z8 ⊢
        have B2 := Lib.hid b2
        have C2 := Lib.hid (CG.out.trans (c2'.mono (S' := [g]) (by simp)))
        replace HQ := Lib.hid (HQ.out.chg c2' (by simp) (by simp))
        clear hw2 c2' b2
        generalize w1.heap.size = gp at *
        gi_wp2_with (refine ⟨trivial, ?_⟩; gi_at_call 52; refine (callsIn_wide.2 (KI.out _)).mono ?_; rintro e w3 ⟨rfl, hc⟩; have C3 := Lib.hid hc; clear hc)
        refine ⟨(fun f hf => by cases hf), ?_⟩
        gi_wp2
        gi_roundg (dotsN la + dotsN lb)
        case measure => exact HG.out
        case rel => exact ⟨la', lb', pre, ND, Lib.hid ⟨_, _, _, _, HQ.out.chg C3.out (by simp) (by simp)⟩, hJ _ _ _ HJ0.out (C2.out.trans (C3.out.mono (by simp))), Lib.hid (Nat.le_trans HN.out (Nat.le_trans C2.out.size C3.out.size)), SO.out.dec⟩
    case true =>
      have ND : Hid (SwInv kE a b la' lb' (pre ++ [p])) := Lib.hid (by have := ND0.out; rwa [if_pos rfl] at this)
      have LEP : Hid (∀ y ∈ pre, Le y p) := Lib.hid (fun y hy => (List.pairwise_append.1 ND.out.up).2.2 y hy p (by simp))
      have HYF := Lib.hid (fun W' (hc : Chg [g] wr W') => hY pre p W' (hJ pre wr W' HJ0.out hc) ⟨OKP.out.2, LEP.out, by have := ND.out.cnt; simp at this; omega, fun n s q => (ND.out.m n s).2 (.inl (mem_append.2 (.inr (mem_one.2 q))))⟩)
      clear ND0 hkv
      rcases c12 with c1 | ⟨c1, c2⟩
      · skip
        gi_wp2_with (refine ⟨trivial, ?_⟩; gi_at_call 73; refine (callsIn_wide.2 ST.out).mono ?_; rintro e w1 ⟨rfl, h1, h2⟩; obtain ⟨A', c', B', d', hs⟩ := h1; have HQ := Lib.hid hs; have CG := Lib.hid h2; have z8 : (w1.alloc (.cells #[.int .i64 p.1, .int .i64 p.2.1, .int .i64 p.2.2] 62)).cell? ⟨g, 8, none⟩ = some (.func (.func 52) #[] #[]) := ((Chg.refl [] w1).alloc _).cell (show w1.cell? ⟨g, 8, none⟩ = some (.func (.func 52) #[] #[]) from (cell_of hs.hg 8).trans rfl) (by simp); clear hs h2)
        clear z0 z4 c1
        obtain ⟨w2, hw2, c2', b2⟩ := news1 w1 (.cells #[.int .i64 p.1, .int .i64 p.2.1, .int .i64 p.2.2] 62)
        rw [← hw2] at z8 ⊢
        have B2 := Lib.hid b2
        have C2 := Lib.hid (CG.out.trans (c2'.mono (S' := [g]) (by simp)))
        replace HQ := Lib.hid (HQ.out.chg c2' (by simp) (by simp))
        clear hw2 c2' b2
        generalize w1.heap.size = gp at *
        gi_wp2_with (refine ⟨trivial, ?_⟩; gi_at_call 52; refine (callsIn_wide.2 (KI.out _)).mono ?_; rintro e w3 ⟨rfl, hc⟩; have C3 := Lib.hid hc; have b3 := hc.at_ B2.out (by simp); have y0 := cell_of b3 0; have y1 := cell_of b3 1; have y2 := cell_of b3 2; simp only [List.getElem?_toArray, List.getElem?_cons_succ, List.getElem?_cons_zero] at y0 y1 y2; clear b3; obtain ⟨fn, tmps, assign, body, hy, hRn⟩ := HYF.out w3 (C2.out.trans (hc.mono (by simp))); clear hc)
        refine hRn.mono ?_
        clear y0 y1 y2 hy
        rintro e w4 (⟨rfl, hJ4, hk4⟩ | ⟨rfl, hx⟩)
        · have J4 := Lib.hid hJ4
          have K4 := Lib.hid hk4
          clear hJ4 hk4 hRn
          gi_wp2
          gi_roundg (dotsN la + dotsN lb)
          case measure => exact HG.out
          case rel => exact ⟨la', lb', pre ++ [p], ND, Lib.hid ((show SwP w3 g X la' lb' 52 from ⟨_, _, _, _, HQ.out.chg C3.out (by simp) (by simp)⟩).kpt K4.out hg1 hX), J4.out, Lib.hid (Nat.le_trans HN.out (Nat.le_trans C2.out.size (Nat.le_trans C3.out.size K4.out.size))), SO.out.dec⟩
        · have JX := Lib.hid hx
          clear hx hRn
          gi_wp2
          refine bodyPost_ret (results_none rfl _ _ _) rfl ?_
          exact ⟨⟨_, rfl⟩, .inr ⟨_, JX.out⟩⟩
      · skip
        gi_wp2_with (refine ⟨trivial, ?_⟩; gi_at_call 73; refine (callsIn_wide.2 ST.out).mono ?_; rintro e w1 ⟨rfl, h1, h2⟩; obtain ⟨A', c', B', d', hs⟩ := h1; have HQ := Lib.hid hs; have CG := Lib.hid h2; have z8 : (w1.alloc (.cells #[.int .i64 p.1, .int .i64 p.2.1, .int .i64 p.2.2] 62)).cell? ⟨g, 8, none⟩ = some (.func (.func 52) #[] #[]) := ((Chg.refl [] w1).alloc _).cell (show w1.cell? ⟨g, 8, none⟩ = some (.func (.func 52) #[] #[]) from (cell_of hs.hg 8).trans rfl) (by simp); clear hs h2)
        clear z0 z4 c1 c2
        obtain ⟨w2, hw2, c2', b2⟩ := news1 w1 (.cells #[.int .i64 p.1, .int .i64 p.2.1, .int .i64 p.2.2] 62)
        rw [← hw2] at z8 ⊢
        have B2 := Lib.hid b2
        have C2 := Lib.hid (CG.out.trans (c2'.mono (S' := [g]) (by simp)))
        replace HQ := Lib.hid (HQ.out.chg c2' (by simp) (by simp))
        clear hw2 c2' b2
        generalize w1.heap.size = gp at *
        gi_wp2_with (refine ⟨trivial, ?_⟩; gi_at_call 52; refine (callsIn_wide.2 (KI.out _)).mono ?_; rintro e w3 ⟨rfl, hc⟩; have C3 := Lib.hid hc; have b3 := hc.at_ B2.out (by simp); have y0 := cell_of b3 0; have y1 := cell_of b3 1; have y2 := cell_of b3 2; simp only [List.getElem?_toArray, List.getElem?_cons_succ, List.getElem?_cons_zero] at y0 y1 y2; clear b3; obtain ⟨fn, tmps, assign, body, hy, hRn⟩ := HYF.out w3 (C2.out.trans (hc.mono (by simp))); clear hc)
        refine hRn.mono ?_
        clear y0 y1 y2 hy
        rintro e w4 (⟨rfl, hJ4, hk4⟩ | ⟨rfl, hx⟩)
        · have J4 := Lib.hid hJ4
          have K4 := Lib.hid hk4
          clear hJ4 hk4 hRn
          gi_wp2
          gi_roundg (dotsN la + dotsN lb)
          case measure => exact HG.out
          case rel => exact ⟨la', lb', pre ++ [p], ND, Lib.hid ((show SwP w3 g X la' lb' 52 from ⟨_, _, _, _, HQ.out.chg C3.out (by simp) (by simp)⟩).kpt K4.out hg1 hX), J4.out, Lib.hid (Nat.le_trans HN.out (Nat.le_trans C2.out.size (Nat.le_trans C3.out.size K4.out.size))), SO.out.dec⟩
        · have JX := Lib.hid hx
          clear hx hRn
          gi_wp2
          refine bodyPost_ret (results_none rfl _ _ _) rfl ?_
          exact ⟨⟨_, rfl⟩, .inr ⟨_, JX.out⟩⟩
end
section
open Go.RowKit Go.Lib
set_option linter.unusedSimpArgs false
set_option linter.unusedVariables false
attribute [local go_sem] Oper.semAt_some


theorem kpt_chg {S T : List Nat} {n : Nat} {W w9 : World} (h : Chg S W w9) (hn : n ≤ W.heap.size) (hS : ∀ z ∈ S, n ≤ z ∨ z ∈ T) : Kpt n T W w9 :=
  ⟨h.os, h.tape, h.output, h.size, fun k hk hT => h.block k (by omega) (fun hm => by rcases hS k hm with e | e; omega; exact hT e)⟩
theorem keeps_chg {S : List Nat} {W w9 : World} (h : Chg S W w9) (hS : ∀ z ∈ S, ∀ o, W.heap[z]? = some o → o.isCells = true) : KeepsOthers W w9 := by
  refine ⟨h.size, fun k o hk ho => ?_⟩
  by_cases hm : k ∈ S
  · have := hS k hm o hk
    rw [ho] at this
    cases this
  · exact h.at_ hk hm
set_option maxRecDepth 100000 in
set_option maxHeartbeats 8000000 in
theorem merged_either (w : World) (g : Nat) (X : List Nat) (a b : List Sp) (h : SwP w g X a b 52) (hX : ∀ z ∈ X, z < w.heap.size) (ha : WfC a) (hb : WfC b) (hl : a.length + b.length ≤ 10000) :
    Calls Try.prog 53 #[.pointer (some ⟨g, 0, none⟩)] w fun e w' => ∃ pre, SwInv kE a b [] [] pre ∧ (((pre.foldl pushP []).length ≤ 4000 ∧ ∃ A c, e = .returned (.tuple #[.slice A (pre.foldl pushP []).length c, .int .i64 0]) ∧ OwnK spanTy w' A c (pre.foldl pushP []) ∧ ∀ y, A = some y → w.heap.size ≤ y.block) ∨ 4000 < (pre.foldl pushP []).length ∧ e = .returned (.tuple #[.slice none 0 0, .int .i64 8])) ∧ Chg [g] w w' := by
  have HS := Lib.hid h
  have LG := Lib.hid (show g < w.heap.size from by obtain ⟨_, _, _, _, q⟩ := h; exact lt_of_heap q.hg)
  clear h
  refine (callsIn_wide (n := 5)).1 ?_
  refine callsIn_of_wp_marks Try.func53 rfl trivial ?_ rfl
  simp only [Try.ntmps53, List.size_toArray, List.length_cons, List.length_nil, Nat.reduceAdd, Nat.reduceSub, Array.replicate_succ, Array.replicate_zero, List.push_toArray, List.append_toArray, List.nil_append, List.cons_append]
  obtain ⟨V, hV, CV, b0⟩ := news1 w (.cells #[.slice none 0 0] 22)
  have hsV : V.heap.size = w.heap.size + 1 := by rw [hV]; simp
  have HV := Lib.hid hV
  have BOXN := Lib.hid (show g ≠ w.heap.size from by have := LG.out; omega)
  clear hV
  gi_wp2
  rw [← HV.out]
  have lg := LG.out
  refine range_boundx (gf := 58) (bd := #[.pointer (some ⟨g, 0, none⟩)]) (lb := #[]) rfl (enters_of Try.func58 (by kernel_rfl) rfl) (encs := fun x : Sp => #[.agg #[.int .i64 x.1, .int .i64 x.2.1, .int .i64 x.2.2]]) (n₁ := V.heap.size) (Nat.le_refl _)
    (S := fun pre => SwInv kE a b [] [] pre) (Sp := fun _ => True) (Ex := fun pre x _ => B3 x ∧ (∀ y ∈ pre, Le y x) ∧ pre.length < potP a b ∧ ∀ n s, InS x n s → kE (memb a n s) (memb b n s) = true) (Bd := fun _ => True) (Si := [g]) (T := [w.heap.size]) ?si ?seq (fun _ => rfl)
    (fun pre W => ((∀ y ∈ pre, B3 y) ∧ pre.Pairwise Le) ∧ (∃ B d, W.heap[w.heap.size]? = some (.cells #[.slice B (pre.foldl pushP []).length d] 22 (0, 0)) ∧ OwnK spanTy W B d (pre.foldl pushP []) ∧ ∀ a, B = some a → V.heap.size ≤ a.block) ∧ Chg [g] w W ∧ V.heap.size ≤ W.heap.size)
    (fun _ _ _ => False) ?keep ?keepx ?kl ?kxl ?bd ⟨⟨by simp, List.Pairwise.nil⟩, ⟨none, 0, b0, OwnK.none_ _, by simp⟩, CV.mono (by simp), Nat.le_refl _⟩ ?elem ?elemA
    (fun x => .cells #[.int .i64 x.1, .int .i64 x.2.1, .int .i64 x.2.2] 62) (fun _ => rfl)
    (fun x nb => { tmps := #[.pointer (some ⟨g, 0, none⟩), undef, .slice none 0 0, .int .i64 0, .pointer (some ⟨w.heap.size, 0, none⟩), .pointer (some ⟨nb, 0, none⟩), .pointer (some ⟨g, 0, none⟩), .func (.func 58) #[.pointer (some ⟨g, 0, none⟩)] #[], .agg #[.int .i64 x.1, .int .i64 x.2.1, .int .i64 x.2.2], undef, undef, undef, undef, undef, undef, undef], defers := [] }) ?assign ?body ?done ?stop
  case si => intro x hx; simp at hx; omega
  case seq =>
    intro l' J Jx W hW hJ hJx hJb hY h0
    have hs2 := hW.size
    have sw : SwP W g X a b 52 := (HS.out.chg CV (by simp) (by simp)).chg (Chg.ofBelow hW (Nat.le_refl _) []) (by simp) (by simp)
    refine (kept_either 3 l' V.heap.size g [w.heap.size] X a b J Jx W ⟨by omega, by simp; omega⟩ (fun z hz => by have := hX z hz; simp; omega) (by omega) hJ hY sw ha hb h0).mono ?_
    rintro e W' ⟨h1, h2 | ⟨pre, h2⟩⟩
    · exact ⟨h1, .inl h2⟩
    · exact ⟨h1, .inr ⟨pre, trivial, h2⟩⟩
  case keep =>
    rintro pre A' B' ⟨hp, ⟨B, d, e1, hO, hB⟩, hC, hz⟩ hb
    exact ⟨hp, ⟨B, d, hb.at_ e1 (by simp; omega), hO.chg hb (fun a ha => by have := hB a ha; simp; omega), hB⟩, hC.trans hb, Nat.le_trans hz hb.size⟩
  case keepx => rintro c pre A B h; exact h.elim
  case kl =>
    rintro pre W l o o' hl ho hll ⟨hp, ⟨B, d, e1, hO, hB⟩, hC, hz⟩
    exact ⟨hp, ⟨B, d, (World.putObj_heap_other (by omega)).trans e1, hO.putl hl ho, hB⟩, hC.putl (by omega), by simpa [World.putObj] using hz⟩
  case kxl => rintro c pre W l o o' hl ho hll h; exact h.elim
  case bd => exact fun _ _ _ => trivial
  case elem => rintro pre x W l o o' hl ho hx; exact hx
  case elemA => rintro pre x W o hx; exact hx
  case assign =>
    intro l x W K hK
    clear hsV lg
    gi_wp2
    exact hK
  case body =>
    rintro l' nb pre x W hnb hbx ⟨hp, ⟨B, d, e1, hO, hB⟩, hC, hz⟩ ⟨hx, hle, hcnt, -⟩
    have HP := Lib.hid hp
    have HX3 := Lib.hid hx
    have HLE := Lib.hid hle
    have LEN : Hid ((pre.foldl pushP []).length ≤ 100000) := Lib.hid (by have h1 := (fold_props pre [] (by simp) hp.1).2; rw [List.length_nil, Nat.zero_add] at h1; have := pot_le a b; omega)
    have ALL := Lib.hid ((fold_props pre [] (by simp) hp.1).1)
    have SNOC : Hid ((pre ++ [x]).foldl pushP [] = pushP (pre.foldl pushP []) x) := Lib.hid (by simp)
    have HO := Lib.hid hO
    have F1 := Lib.hid e1
    have HC := Lib.hid hC
    have HZ := Lib.hid hz
    have HBB := Lib.hid hB
    have HSV := Lib.hid hsV
    have y0 := cell_of e1 0
    have x0 := cell_of hbx 0
    have x1 := cell_of hbx 1
    have x2 := cell_of hbx 2
    simp only [List.getElem?_toArray, List.getElem?_cons_succ, List.getElem?_cons_zero] at y0 x0 x1 x2
    clear hO e1 hC hz hB hsV lg hp hx hle hcnt hbx
    have PU := Lib.hid (push_any W d x B (pre.foldl pushP []) HO.out LEN.out ALL.out)
    generalize hout : pre.foldl pushP [] = out at *
    gi_wp2_with (refine ⟨trivial, ?_⟩; gi_at_call 46; refine (CallsIn.inRound l' (callsIn_wide.2 PU.out)).mono ?_; rintro e w9 ⟨A9, c9, rfl, ho, hA, hc⟩; have c99 := hc (blkOf B) (fun a ha => mem_blkOf ha); have hne : w.heap.size ∉ blkOf B := fun hm => (by obtain ⟨y, hy, e⟩ := of_blkOf hm; have := HBB.out y hy; have := HSV.out; omega); have p5 := c99.at_ F1.out hne; have k5 := cell_of p5 0; have f5 := free_of p5 0; simp only [List.getElem?_toArray, List.getElem?_cons_zero] at k5; have P5 := Lib.hid p5; have O9 := Lib.hid ho; have A9H := Lib.hid hA; have C9 := Lib.hid c99; clear ho hA hc c99 hne p5)
    have hsv := HSV.out
    have hz := HZ.out
    have hs9 := C9.out.size
    have nB : ∀ z ∈ blkOf B, V.heap.size ≤ z := fun z hz => by obtain ⟨y, hy, rfl⟩ := of_blkOf hz; exact HBB.out y hy
    have nA : ∀ y, A9 = some y → V.heap.size ≤ y.block := fun y hy => by
      rcases A9H.out with e | e
      · exact HBB.out y (e ▸ hy)
      · have := e y hy; omega
    have st := (Chg.refl [w.heap.size] w9).setCell (p := ⟨w.heap.size, 0, none⟩) (.inl (by simp)) (.slice A9 (pushP out x).length c9)
    refine ⟨(keeps_chg C9.out (fun z hz o ho => by obtain ⟨y, hy, rfl⟩ := of_blkOf hz; exact HO.out.cells _ _ (by rw [hy]; rfl) ho)).trans (KeepsOthers.setCell _ _ _), (kpt_chg (n := V.heap.size) (T := [w.heap.size]) C9.out hz (fun z hz => .inl (nB z hz))).trans (Kpt.of_chg st (by omega)), ⟨fun y hy => ?_, List.pairwise_append.2 ⟨HP.out.2, by simp, fun y hy z hz2 => by simp at hz2; subst hz2; exact HLE.out y hy⟩⟩, ⟨A9, c9, ?_, ?_, nA⟩, ?_, ?_⟩
    · rcases List.mem_append.1 hy with q | q
      · exact HP.out.1 y q
      · simp at q; subst q; exact HX3.out
    · have := heap_setCell_same w9 w.heap.size 0 _ _ (.slice A9 (pushP out x).length c9) P5.out
      rw [SNOC.out]
      simpa using this
    · rw [SNOC.out]
      exact O9.out.chg st (fun a ha => by have := nA a ha; simp; omega)
    · exact (HC.out.trans' C9.out (fun z hz => .inr (by have := nB z hz; omega))).trans' st (fun z hz => by simp at hz; subst hz; exact .inr (Nat.le_refl _))
    · have := st.size
      omega
  case done =>
    rintro D ys W hD hS ⟨hp, ⟨B, d, e1, hO, hB⟩, hC, hz⟩ hK
    have HSW := Lib.hid hS
    have HO := Lib.hid hO
    have HBB := Lib.hid hB
    have HC := Lib.hid hC
    have HSV := Lib.hid hsV
    have k1 := cell_of e1 0
    simp only [List.getElem?_toArray, List.getElem?_cons_zero] at k1
    clear hS e1 hO hB hC hz hp hsV lg
    by_cases hfew : (ys.foldl pushP []).length ≤ 4000
    · gi_wp2_with (refine ⟨trivial, ?_⟩; gi_at_call 43; refine (callsIn_wide.2 (bounded_few _ _ _ _ hfew)).mono ?_; rintro e w9 ⟨rfl, hc⟩; have C9 := Lib.hid hc; have k9 := hc.at_ hK (by simp); clear hc)
      refine ⟨by simp, .inl ⟨_, _, rfl, run_takeDeferred k9, ?_⟩⟩
      refine ⟨_, results_tmp2 rfl _ _ _, ys, HSW.out, .inl ⟨hfew, B, d, rfl, (HO.out.chg C9.out (by simp)).putl k9 rfl, fun y hy => by have := HBB.out y hy; have := HSV.out; omega⟩, (HC.out.trans (C9.out.mono (by simp))).putl (by have := HSV.out; omega)⟩
    · have hmany : 4000 < (ys.foldl pushP []).length := by omega
      gi_wp2_with (refine ⟨trivial, ?_⟩; gi_at_call 43; refine (callsIn_wide.2 (bounded_many _ _ _ _ hmany)).mono ?_; rintro e w9 ⟨rfl, hc⟩; have C9 := Lib.hid hc; have k9 := hc.at_ hK (by simp); clear hc)
      refine ⟨by simp, .inl ⟨_, _, rfl, run_takeDeferred k9, ?_⟩⟩
      refine ⟨_, results_tmp2 rfl _ _ _, ys, HSW.out, .inr ⟨hmany, rfl⟩, (HC.out.trans (C9.out.mono (by simp))).putl (by have := HSV.out; omega)⟩
  case stop => rintro D c xs V _ _ h; exact h.elim
end
section
open Go.RowKit Go.Lib
set_option linter.unusedSimpArgs false
set_option linter.unusedVariables false


set_option maxRecDepth 100000 in
set_option maxHeartbeats 4000000 in
theorem join_any (w : World) (A : Option Addr) (c : Nat) (xs : List Sp) (B : Option Addr) (d : Nat) (ys : List Sp) (h : RdK spanTy w A xs.length xs) (hc : xs.length ≤ c ∧ c ≤ maxLen) (ho : ∀ a, A = some a → a.block < w.heap.size) (h' : RdK spanTy w B ys.length ys) (hd : ys.length ≤ d ∧ d ≤ maxLen) (ho' : ∀ a, B = some a → a.block < w.heap.size) (hn : xs.length ≤ 140737488351232) (hm : ys.length ≤ 140737488351232) :
    Calls Try.prog 13 #[.slice A xs.length c, .slice B ys.length d] w fun e w' => ∃ A' c', e = .returned (.tuple #[.slice A' (joinE xs ys).2.length c', .int .i64 (joinE xs ys).1]) ∧ OwnK spanTy w' A' c' (joinE xs ys).2 ∧ (∀ a, A' = some a → w.heap.size ≤ a.block) ∧ Chg [] w w' := by
  have H := Lib.hid h
  have H' := Lib.hid h'
  have HC := Lib.hid hc
  have HD := Lib.hid hd
  have HO := Lib.hid ho
  have HO' := Lib.hid ho'
  have HN := Lib.hid (show xs.length ≤ 140737488351232 ∧ ys.length ≤ 140737488351232 from ⟨hn, hm⟩)
  clear h h' hc hd ho ho' hn hm
  have M := Lib.hid (may_any w A xs.length c xs H.out HN.out.1 B ys.length d ys H'.out HN.out.2)
  by_cases hk : chkS xs = 0 ∧ chkS ys = 0
  · have eE : joinE xs ys = boundP (tidyS (xs ++ ys)) := by unfold joinE; rw [if_pos hk]
    rw [decide_eq_true hk] at M
    rw [eE]
    generalize hRR : boundP (tidyS (xs ++ ys)) = RR
    have HRR := Lib.hid hRR
    clear hRR
    obtain ⟨wa, la⟩ := wf_of_chk hk.1
    obtain ⟨wb, lb⟩ := wf_of_chk hk.2
    have WA := Lib.hid wa
    have WB := Lib.hid wb
    have LL := Lib.hid (show xs.length + ys.length ≤ 10000 by omega)
    clear hk wa wb la lb eE
    go_enter Try.func13, Try.ntmps13
    go_wp2_with fail
    refine M.out.mono ?_
    rintro e w1 ⟨rfl, h1⟩
    have C1 := Lib.hid h1
    clear h1 M
    go_wp2_with fail
    refine (over_any w1 A c xs B d ys 52 (blkOf A ++ blkOf B) (H.out.chg C1.out (by simp)) HC.out (fun a ha => Nat.lt_of_lt_of_le (HO.out a ha) C1.out.size) (H'.out.chg C1.out (by simp)) HD.out (fun a ha => Nat.lt_of_lt_of_le (HO'.out a ha) C1.out.size) (fun a ha => List.mem_append_left _ (mem_blkOf ha)) (fun a ha => List.mem_append_right _ (mem_blkOf ha)) (fun z hz => ?_)).mono ?_
    · rcases List.mem_append.1 hz with e | e
      · obtain ⟨y, hy, rfl⟩ := of_blkOf e
        exact Nat.lt_of_lt_of_le (HO.out y hy) C1.out.size
      · obtain ⟨y, hy, rfl⟩ := of_blkOf e
        exact Nat.lt_of_lt_of_le (HO'.out y hy) C1.out.size
    rintro e w2 ⟨g, rfl, h1, h2, h3⟩
    have SW := Lib.hid h1
    have GG := Lib.hid h2
    have C2 := Lib.hid h3
    have BX : Hid (∀ z ∈ blkOf A ++ blkOf B, z < w2.heap.size) := Lib.hid (fun z hz => by
      have s1 := C1.out.size
      have s2 := C2.out.size
      rcases List.mem_append.1 hz with e | e
      · obtain ⟨y, hy, rfl⟩ := of_blkOf e
        have := HO.out y hy; omega
      · obtain ⟨y, hy, rfl⟩ := of_blkOf e
        have := HO'.out y hy; omega)
    clear h1 h2 h3
    go_wp2_with fail
    refine (merged_either w2 g _ xs ys SW.out BX.out WA.out WB.out LL.out).mono ?_
    rintro e w3 ⟨pre, hs, hor, hc3⟩
    rw [join_eq WA.out WB.out hs] at hor
    have C3 := Lib.hid ((C1.out.trans C2.out).trans' hc3 (fun z hz => by simp at hz; subst hz; exact .inr (Nat.le_trans C1.out.size GG.out)))
    have S2 := Lib.hid (show w.heap.size ≤ w2.heap.size from Nat.le_trans C1.out.size C2.out.size)
    clear hs hc3
    generalize tidyS (xs ++ ys) = R at *
    rcases hor with ⟨hl, A', c', rfl, hO, hA⟩ | ⟨hl, rfl⟩
    · have eB : boundP R = (0, R) := by unfold boundP; rw [if_neg (by omega)]
      obtain rfl : RR = (0, R) := by rw [← HRR.out]; exact eB
      have OO := Lib.hid hO
      have AA := Lib.hid hA
      clear hO hA hl eB
      go_wp2
      go_ret2
      exact ⟨A', c', rfl, OO.out, fun a ha => Nat.le_trans S2.out (AA.out a ha), C3.out⟩
    · have eB : boundP R = (8, []) := by unfold boundP; rw [if_pos hl]
      obtain rfl : RR = (8, []) := by rw [← HRR.out]; exact eB
      clear hl eB
      go_wp2
      go_ret2
      exact ⟨none, 0, rfl, OwnK.none_ _, by simp, C3.out⟩
  · have eE : joinE xs ys = (2, []) := by unfold joinE; rw [if_neg hk]
    rw [decide_eq_false hk] at M
    rw [eE]
    clear hk eE
    go_enter Try.func13, Try.ntmps13
    go_wp2_with fail
    refine M.out.mono ?_
    rintro e w1 ⟨rfl, h1⟩
    have C1 := Lib.hid h1
    clear h1 M
    go_wp2
    go_ret2
    exact ⟨none, 0, rfl, OwnK.none_ _, by simp, C1.out⟩
end
section
open Go.RowKit Go.Lib
set_option linter.unusedSimpArgs false
set_option linter.unusedVariables false


set_option maxRecDepth 100000 in
set_option maxHeartbeats 4000000 in
theorem add_any (w : World) (A : Option Addr) (c : Nat) (xs : List Sp) (n s : Int) (h : RdK spanTy w A xs.length xs) (hc : xs.length ≤ c ∧ c ≤ maxLen) (ho : ∀ a, A = some a → a.block < w.heap.size) (hn : xs.length ≤ 140737488351232) :
    Calls Try.prog 24 #[.slice A xs.length c, .agg #[.int .i64 n, .int .i64 s]] w fun e w' => ∃ A' c', e = .returned (.tuple #[.slice A' (joinE xs [(n, s, s)]).2.length c', .int .i64 (joinE xs [(n, s, s)]).1]) ∧ OwnK spanTy w' A' c' (joinE xs [(n, s, s)]).2 ∧ (∀ a, A' = some a → w.heap.size ≤ a.block) ∧ Chg [] w w' := by
  obtain ⟨w1, hw1, c1, b1⟩ := news1 w (.cells #[.int .i64 n, .int .i64 s] 37)
  have W1 := Lib.hid hw1
  have C1 := Lib.hid c1
  have B1 := Lib.hid b1
  have H := Lib.hid (h.chg c1 (by simp))
  have HC := Lib.hid hc
  have HO := Lib.hid (fun a ha => Nat.lt_of_lt_of_le (ho a ha) c1.size)
  have HN := Lib.hid hn
  clear hw1 c1 b1 h hc ho hn
  go_enter Try.func24, Try.ntmps24
  go_upto_region 1 with fail
  rw [← W1.out]
  generalize hg0 : w.heap.size = g0 at *
  have z0 := cell_of B1.out 0
  have z1 := cell_of B1.out 1
  simp only [List.getElem?_toArray, List.getElem?_cons_succ, List.getElem?_cons_zero] at z0 z1
  go_wp2_with fail
  refine (alone_any w1 n s).mono ?_
  rintro e w2 ⟨rfl, hc⟩
  have C2 := Lib.hid (C1.out.trans hc)
  replace H := Lib.hid (H.out.chg hc (by simp))
  replace HO := Lib.hid (fun a ha => Nat.lt_of_lt_of_le (HO.out a ha) hc.size)
  clear hc z0 z1
  obtain ⟨w3, hw3, c3, b3⟩ := news1 w2 (.cells #[.int .i64 n, .int .i64 s, .int .i64 s] 62)
  have W3 := Lib.hid hw3
  have HR := Lib.hid (rd_oneS (x := (n, s, s)) b3)
  have LT := Lib.hid (lt_of_heap b3)
  replace H := Lib.hid (H.out.chg c3 (by simp))
  replace HO := Lib.hid (fun a ha => Nat.lt_of_lt_of_le (HO.out a ha) c3.size)
  have C3 := Lib.hid (C2.out.trans c3)
  clear hw3 c3 b3
  generalize hjj : joinE xs [(n, s, s)] = jj at *
  have HJJ := Lib.hid hjj
  clear hjj
  go_wp2_with fail
  rw [← W3.out]
  refine (join_any w3 A c xs (some ⟨w2.heap.size, 0, none⟩) 1 [(n, s, s)] H.out HC.out HO.out HR.out ⟨Nat.le_refl _, by simp [maxLen]⟩ (fun a ha => by cases ha; exact LT.out) HN.out (by simp)).mono ?_
  rintro e w4 ⟨A', c', rfl, h1, h2, h3⟩
  have e9 := HJJ.out
  subst e9
  have O4 := Lib.hid h1
  have N4 := Lib.hid h2
  have C4 := Lib.hid (C3.out.trans h3)
  have SZ := Lib.hid C3.out.size
  clear h1 h2 h3
  go_wp2
  go_ret2
  exact ⟨A', c', rfl, O4.out, fun a ha => by have := N4.out a ha; have := SZ.out; omega, C4.out⟩
end
end Go.Proofs.Ytgafkphhnlifiaa
