/- A range over a function whose iterator hands over what it has laid itself; the body always goes on: no program here. A range over a function whose iterator writes cells of its own (blocks Si), with a body that writes cells of its caller's (blocks T) and may leave: no program here. As XRangeo, over a method as a value (bound arguments la). A range over a function whose body also makes memory of its own (a row that grows): the iterator promises to leave alone all that there is but its own blocks. No program here. A range over a function whose body also makes memory of its own (a row that grows): the iterator promises to leave alone all that there is but its own blocks. No program here. Rows in the body of a range over a function (taken from XToway by gen/Ckcut2.py). past: what is kept. past: kept hands on what is kept. As XRangeo, over a method as a value (bound arguments), whose round begins with a box of its own for what was handed over. A range over a function whose body also makes memory of its own (a row that grows): the iterator promises to leave alone all that there is but its own blocks. No program here. past: what is kept is merged. past.Join. past.Add. edge.Learn. -/
import Derived.RangeFuncNested
import Derived.RangeFuncBound
import Derived.RangeFuncCalls
import Derived.RangeFuncLeaves
import Derived.Shelf.Abstract
import Derived.Shelf.RegionOpen
import Derived.WalkKit
import Derived.OwnWalkIn
import Derived.TacticsInMore
import Derived.LoopNIn
import Derived.LoopIn
import Derived.Test.YtgafkaigkaghcaaGreatDoorZeaa
import Derived.Test.YtgafkaigkaghcaaGreatDoorZedc
import Derived.Test.YtgafkaigkaghcaaGreatDoorZeab
import Derived.Deep.Cut
import Derived.Deep.CutRange
import Derived.Sort.LoopGhostIn
import Derived.Test.YtgafkaigkaghcaaGreatDoorZeae
import Derived.Test.YtgafkaigkaghcaaGreatDoorZeda
import Derived.Test.YtgafkaigkaghcaaGreatDoorZeba
namespace Go.Proofs.YtgafkaigkaghcaaGreatDoor
section
open Go.RowKit
end
section
open Go.RowKit

/-- Below n, only the blocks T may have turned. -/
structure Kpt (n : Nat) (T : List Nat) (w w' : World) : Prop where
  os : w'.os = w.os
  tape : w'.tape = w.tape
  output : w'.output = w.output
  size : w.heap.size ≤ w'.heap.size
  block : ∀ k, k < n → k ∉ T → w'.heap[k]? = w.heap[k]?
theorem Kpt.refl (n : Nat) (T : List Nat) (w : World) : Kpt n T w w := ⟨rfl, rfl, rfl, Nat.le_refl _, fun _ _ _ => rfl⟩
theorem Kpt.trans {n : Nat} {T : List Nat} {a b c : World} (h : Kpt n T a b) (k : Kpt n T b c) : Kpt n T a c :=
  ⟨k.os.trans h.os, k.tape.trans h.tape, k.output.trans h.output, Nat.le_trans h.size k.size, fun i hi hn => (k.block i hi hn).trans (h.block i hi hn)⟩
theorem Kpt.of_chg {n : Nat} {T : List Nat} {a b : World} (h : Chg T a b) (hn : n ≤ a.heap.size) : Kpt n T a b :=
  ⟨h.os, h.tape, h.output, h.size, fun k hk hT => h.block k (by omega) hT⟩
theorem Kpt.of_below {n m : Nat} {T : List Nat} {a b : World} (h : Below m a b) (hn : n ≤ m) : Kpt n T a b :=
  ⟨h.os, h.tape, h.output, h.size, fun k hk _ => h.block k (by omega)⟩
theorem Kpt.mono {n m : Nat} {S T : List Nat} {a b : World} (h : Kpt m S a b) (hn : n ≤ m) (hS : ∀ x ∈ S, x ∈ T) : Kpt n T a b :=
  ⟨h.os, h.tape, h.output, h.size, fun k hk hT => h.block k (by omega) (fun hs => hT (hS k hs))⟩
theorem Kpt.chg {T : List Nat} {a b : World} (h : Kpt a.heap.size T a b) : Chg T a b := ⟨h.os, h.tape, h.output, h.size, fun k hk hT => h.block k hk hT⟩

/-- How a round's body may be left. -/
def brkPost {α : Type} (I : List α → World → Prop) (Ix : Code → List α → World → Prop) (n₁ : Nat) (T : List Nat) (xs : List α) (W : World) : Exit → Act → World → Prop
  | .normal, _, W' => KeepsOthers W W' ∧ Kpt n₁ T W W' ∧ I xs W'
  | .ret, _, W' => KeepsOthers W W' ∧ Ix .ret xs W'
  | .exit id, _, W' => KeepsOthers W W' ∧ Ix (.exit id) xs W'
  | _, _, _ => False
end
section
open Go.RowKit
end
section
open Go.RowKit
end
section
open Go.RowKit
set_option linter.unusedSimpArgs false
set_option linter.unusedVariables false
attribute [local go_sem] Oper.semAt_some
theorem KeepsOthers.grown {w w' : World} {row : Option Nat} (h : w.grownBy w' row) (hr : ∀ k o, row = some k → w.heap[k]? = some o → o.isCells = true) : KeepsOthers w w' :=
  ⟨h.size, fun k o hk ho => (h.block k (lt_of_heap hk) (fun e => by rw [hr k o e.symm hk] at ho; cases ho)).trans hk⟩
theorem OwnK.cells {α : Type} {R : RowTy α} {w : World} {A : Option Addr} {c : Nat} {xs : List α} (h : OwnK R w A c xs) : ∀ k o, A.map (·.block) = some k → w.heap[k]? = some o → o.isCells = true := by
  intro k o hk ho
  rcases h with ⟨rfl, _, _⟩ | ⟨g, full, rfl, hg, _⟩
  · cases hk
  · simp at hk; subst hk; rw [hg] at ho; cases ho; rfl
theorem OwnK.putl {α : Type} {R : RowTy α} {w : World} {A : Option Addr} {c : Nat} {xs : List α} (h : OwnK R w A c xs) {l : Nat} {o o' : Obj} (hl : w.heap[l]? = some o) (ho : o.isCells = false) : OwnK R (w.putObj l o') A c xs := by
  rcases h with h | ⟨g, full, h1, h2, r⟩
  · exact .inl h
  · refine .inr ⟨g, full, h1, ?_, r⟩
    rw [World.putObj_heap_other (fun e => by subst e; rw [h2] at hl; cases hl; cases ho)]
    exact h2
theorem Chg.putl {S : List Nat} {a w : World} (h : Chg S a w) {l : Nat} {o' : Obj} (hl : a.heap.size ≤ l) : Chg S a (w.putObj l o') :=
  ⟨h.os, h.tape, h.output, by have := h.size; simp [World.putObj]; omega, fun k hk hn => (World.putObj_heap_other (by omega)).trans (h.block k hk hn)⟩
theorem Kpt.grown {n : Nat} {T : List Nat} {w w' : World} {row : Option Nat} (g : w.grownBy w' row) (hn : n ≤ w.heap.size) (hr : ∀ k, row = some k → n ≤ k ∨ k ∈ T) : Kpt n T w w' :=
  ⟨g.os, g.tape, g.output, g.size, fun k hk hT => g.block k (by omega) (fun e => by
    rcases hr k e.symm with h | h
    · omega
    · exact hT h)⟩
end
section
open Go.RowKit Go.Lib
set_option linter.unusedSimpArgs false
set_option linter.unusedVariables false


theorem either_any (w : World) (x y : Bool) : Calls Tryz.prog 121 #[.bool x, .bool y] w fun e w' => e = .returned (.bool (kE x y)) ∧ Chg [] w w' := by
  cases x <;> cases y
  all_goals
    go_enter Tryz.func121, Tryz.ntmps121
    go_wp2
    go_ret
    exact ⟨rfl, Chg.refl _ _⟩
theorem RdK.kpt {α : Type} {R : RowTy α} {w w' : World} {n₁ : Nat} {T : List Nat} {A : Option Addr} {n : Nat} {xs : List α} (h : RdK R w A n xs) (hk : Kpt n₁ T w w') (ha : ∀ a, A = some a → a.block < n₁ ∧ a.block ∉ T) : RdK R w' A n xs := by
  refine ⟨h.len, fun j v hj => ?_⟩
  obtain ⟨a, e, hc⟩ := h.cells j v hj
  refine ⟨a, e, ?_⟩
  have := ha a e
  have e2 : (a.add j).block = a.block := by unfold Addr.add; split <;> rfl
  exact (World.cell?_of_block (hk.block (a.add j).block (by rw [e2]; exact this.1) (by rw [e2]; exact this.2))).trans hc
theorem SwP.kpt {w w' : World} {n₁ : Nat} {T : List Nat} {g : Nat} {X : List Nat} {la lb : List Sp} {kf : Nat} (h : SwP w g X la lb kf) (hk : Kpt n₁ T w w') (hg : g < n₁ ∧ g ∉ T) (hX : ∀ z ∈ X, z < n₁ ∧ z ∉ T) : SwP w' g X la lb kf := by
  obtain ⟨A, c, B, d, h⟩ := h
  exact ⟨A, c, B, d, (hk.block g hg.1 hg.2).trans h.hg, rd_old h.ra (h.na.imp id (fun q => h.ra.kpt hk (fun a ha => hX _ (q a ha)))), h.ca, h.na, rd_old h.rb (h.nb.imp id (fun q => h.rb.kpt hk (fun a ha => hX _ (q a ha)))), h.cb, h.nb, h.gx⟩
end
section
open Go.RowKit Go.Lib
set_option linter.unusedSimpArgs false
set_option linter.unusedVariables false


set_option maxRecDepth 100000 in
set_option maxHeartbeats 8000000 in
theorem kept_either (n l n₁ g : Nat) (T X : List Nat) (a b : List Sp) (J Jx : List Sp → World → Prop) (W : World) (hg1 : g < n₁ ∧ g ∉ T) (hX : ∀ z ∈ X, z < n₁ ∧ z ∉ T) (hn₁ : n₁ ≤ W.heap.size)
    (hJ : ∀ pre A B, J pre A → Chg [g] A B → J pre B)
    (hY : ∀ pre x W1, J pre W1 → (B3 x ∧ (∀ y ∈ pre, Le y x) ∧ pre.length < potP a b ∧ ∀ n s, InS x n s → kE (memb a n s) (memb b n s) = true) → YieldAt Fence.wide n Tryz.prog l #[.agg #[.int .i64 x.1, .int .i64 x.2.1, .int .i64 x.2.2]] W1 fun e W' => (e = .returned (.bool true) ∧ J (pre ++ [x]) W' ∧ Kpt n₁ T W1 W') ∨ (e = .returned (.bool false) ∧ Jx (pre ++ [x]) W'))
    (h0 : SwP W g X a b 121) (ha : WfC a) (hb : WfC b) (hj : J [] W) :
    CallsIn Fence.wide (n + 1) Tryz.prog 149 #[.pointer (some ⟨g, 0, none⟩), .func (.yield l) #[] #[]] W fun e W' => (∃ v, e = .returned v) ∧ ((∃ pre, SwInv kE a b [] [] pre ∧ J pre W') ∨ ∃ pre, Jx pre W') := by
  refine callsIn_of_wp Tryz.func149 rfl trivial ?_ rfl
  simp only [Tryz.ntmps149, List.size_toArray, List.length_cons, List.length_nil, Nat.reduceAdd, Nat.reduceSub, Array.replicate_succ, Array.replicate_zero, List.push_toArray, List.append_toArray, List.nil_append, List.cons_append]
  have HK := Lib.hid (fun (w : World) (x y : Bool) => either_any w x y)
  gi_wp2
  gi_loopg [] (dotsN a + dotsN b + 1) (fun G wr => ∃ (la lb pre : List Sp), Hid (SwInv kE a b la lb pre) ∧ Hid (SwP wr g X la lb 121) ∧ J pre wr ∧ Hid (n₁ ≤ wr.heap.size) ∧ dotsN la + dotsN lb < G)
  case atStart => exact ⟨a, b, [], Lib.hid (SwInv.begin ha hb), Lib.hid h0, hj, Lib.hid hn₁, by omega⟩
  case round =>
    obtain ⟨la, lb, pre, HI, HS, hJs, HN, hG⟩ := hrel
    have HJ0 := Lib.hid hJs
    have HG := Lib.hid hG
    clear hJs hG
    by_cases hne : la ≠ [] ∨ lb ≠ []
    rotate_left
    · have ea : la = [] := by by_cases e : la = []; exact e; exact absurd (.inl e) hne
      have eb : lb = [] := by by_cases e : lb = []; exact e; exact absurd (.inr e) hne
      subst ea
      subst eb
      obtain ⟨A, c, B, d, hs⟩ := HS.out
      have z0 := cell_of hs.hg 0
      have z4 := cell_of hs.hg 4
      simp only [List.getElem?_toArray, List.getElem?_cons_succ, List.getElem?_cons_zero, hd_nil] at z0 z4
      clear hs hne
      gi_wp2
      go_end0
      exact ⟨⟨_, rfl⟩, .inl ⟨pre, HI.out, HJ0.out⟩⟩
    have so := step_ok HI.out.wa HI.out.wb hne
    have st := fun hX' => step_any wr g X la lb 121 HS.out hX' HI.out.wa HI.out.wb hne
    replace st := st (fun z hz => by have := (hX z hz).1; have := HN.out; omega)
    have c12 : ((hdP la).1 != 201) = true ∨ ((hdP la).1 != 201) = false ∧ ((hdP lb).1 != 201) = true := by
      cases la with
      | cons x r => left; have := HI.out.wa.2 x (by simp); rw [hd_cons]; simp; omega
      | nil =>
        right
        cases lb with
        | nil => exact absurd rfl (hne.elim id id)
        | cons x r => have := HI.out.wb.2 x (by simp); rw [hd_cons, hd_nil]; simp; omega
    generalize pieceP (hdP la) (hdP lb) = p at so st
    generalize inP (hdP la) (hdP lb) = ia at so st
    generalize inP (hdP lb) (hdP la) = ib at so st
    generalize leftP la ia p.2.2 = la' at so st
    generalize leftP lb ib p.2.2 = lb' at so st
    have KI := Lib.hid (fun w => HK.out w ia ib)
    have SO := Lib.hid so
    have ST := Lib.hid st
    have ND0 := Lib.hid (HI.out.step (k := kE) (by rfl) so)
    clear so st hne
    have OKP : Hid (SpOk p ∧ B3 p) := Lib.hid (by have := SO.out.ok; unfold B3 SpOk at *; omega)
    obtain ⟨A, c, B, d, hs⟩ := HS.out
    have z0 := cell_of hs.hg 0
    have z4 := cell_of hs.hg 4
    simp only [List.getElem?_toArray, List.getElem?_cons_succ, List.getElem?_cons_zero] at z0 z4
    have GLT := Lib.hid (lt_of_heap hs.hg)
    clear hs HS
    generalize (hdP la).1 = ha1 at *
    generalize (hdP lb).1 = hb1 at *
    generalize hkv : kE ia ib = kv at KI ND0
    cases kv
    case false =>
      have ND : Hid (SwInv kE a b la' lb' pre) := Lib.hid (by have := ND0.out; rwa [if_neg (by simp)] at this)
      clear ND0 hkv
      rcases c12 with c1 | ⟨c1, c2⟩
      · skip
        gi_wp2_with (refine ⟨trivial, ?_⟩; gi_at_call 166; refine (callsIn_wide.2 ST.out).mono ?_; rintro e w1 ⟨rfl, h1, h2⟩; obtain ⟨A', c', B', d', hs⟩ := h1; have HQ := Lib.hid hs; have CG := Lib.hid h2; have z8 : (w1.alloc (.cells #[.int .i64 p.1, .int .i64 p.2.1, .int .i64 p.2.2] 78)).cell? ⟨g, 8, none⟩ = some (.func (.func 121) #[] #[]) := ((Chg.refl [] w1).alloc _).cell (show w1.cell? ⟨g, 8, none⟩ = some (.func (.func 121) #[] #[]) from (cell_of hs.hg 8).trans rfl) (by simp); clear hs h2)
        clear z0 z4 c1
        obtain ⟨w2, hw2, c2', b2⟩ := news1 w1 (.cells #[.int .i64 p.1, .int .i64 p.2.1, .int .i64 p.2.2] 78)
        rw [← hw2] at z8 ⊢
        have B2 := Lib.hid b2
        have C2 := Lib.hid (CG.out.trans (c2'.mono (S' := [g]) (by simp)))
        replace HQ := Lib.hid (HQ.out.chg c2' (by simp) (by simp))
        clear hw2 c2' b2
        generalize w1.heap.size = gp at *
        gi_wp2_with (refine ⟨trivial, ?_⟩; gi_at_call 121; refine (callsIn_wide.2 (KI.out _)).mono ?_; rintro e w3 ⟨rfl, hc⟩; have C3 := Lib.hid hc; clear hc)
        refine ⟨(fun f hf => by cases hf), ?_⟩
        gi_wp2
        gi_roundg (dotsN la + dotsN lb)
        case measure => exact HG.out
        case rel => exact ⟨la', lb', pre, ND, Lib.hid ⟨_, _, _, _, HQ.out.chg C3.out (by simp) (by simp)⟩, hJ _ _ _ HJ0.out (C2.out.trans (C3.out.mono (by simp))), Lib.hid (Nat.le_trans HN.out (Nat.le_trans C2.out.size C3.out.size)), SO.out.dec⟩
      · skip
        gi_wp2_with (refine ⟨trivial, ?_⟩; gi_at_call 166; refine (callsIn_wide.2 ST.out).mono ?_; rintro e w1 ⟨rfl, h1, h2⟩; obtain ⟨A', c', B', d', hs⟩ := h1; have HQ := Lib.hid hs; have CG := Lib.hid h2; have z8 : (w1.alloc (.cells #[.int .i64 p.1, .int .i64 p.2.1, .int .i64 p.2.2] 78)).cell? ⟨g, 8, none⟩ = some (.func (.func 121) #[] #[]) := ((Chg.refl [] w1).alloc _).cell (show w1.cell? ⟨g, 8, none⟩ = some (.func (.func 121) #[] #[]) from (cell_of hs.hg 8).trans rfl) (by simp); clear hs h2)
        clear z0 z4 c1 c2
        obtain ⟨w2, hw2, c2', b2⟩ := news1 w1 (.cells #[.int .i64 p.1, .int .i64 p.2.1, .int .i64 p.2.2] 78)
        rw [← hw2] at z8 ⊢
        have B2 := Lib.hid b2
        have C2 := Lib.hid (CG.out.trans (c2'.mono (S' := [g]) (by simp)))
        replace HQ := Lib.hid (HQ.out.chg c2' (by simp) (by simp))
        clear hw2 c2' b2
        generalize w1.heap.size = gp at *
        gi_wp2_with (refine ⟨trivial, ?_⟩; gi_at_call 121; refine (callsIn_wide.2 (KI.out _)).mono ?_; rintro e w3 ⟨rfl, hc⟩; have C3 := Lib.hid hc; clear hc)
        refine ⟨(fun f hf => by cases hf), ?_⟩
        gi_wp2
        gi_roundg (dotsN la + dotsN lb)
        case measure => exact HG.out
        case rel => exact ⟨la', lb', pre, ND, Lib.hid ⟨_, _, _, _, HQ.out.chg C3.out (by simp) (by simp)⟩, hJ _ _ _ HJ0.out (C2.out.trans (C3.out.mono (by simp))), Lib.hid (Nat.le_trans HN.out (Nat.le_trans C2.out.size C3.out.size)), SO.out.dec⟩
    case true =>
      have ND : Hid (SwInv kE a b la' lb' (pre ++ [p])) := Lib.hid (by have := ND0.out; rwa [if_pos rfl] at this)
      have LEP : Hid (∀ y ∈ pre, Le y p) := Lib.hid (fun y hy => (List.pairwise_append.1 ND.out.up).2.2 y hy p (by simp))
      have HYF := Lib.hid (fun W' (hc : Chg [g] wr W') => hY pre p W' (hJ pre wr W' HJ0.out hc) ⟨OKP.out.2, LEP.out, by have := ND.out.cnt; simp at this; omega, fun n s q => (ND.out.m n s).2 (.inl (mem_append.2 (.inr (mem_one.2 q))))⟩)
      clear ND0 hkv
      rcases c12 with c1 | ⟨c1, c2⟩
      · skip
        gi_wp2_with (refine ⟨trivial, ?_⟩; gi_at_call 166; refine (callsIn_wide.2 ST.out).mono ?_; rintro e w1 ⟨rfl, h1, h2⟩; obtain ⟨A', c', B', d', hs⟩ := h1; have HQ := Lib.hid hs; have CG := Lib.hid h2; have z8 : (w1.alloc (.cells #[.int .i64 p.1, .int .i64 p.2.1, .int .i64 p.2.2] 78)).cell? ⟨g, 8, none⟩ = some (.func (.func 121) #[] #[]) := ((Chg.refl [] w1).alloc _).cell (show w1.cell? ⟨g, 8, none⟩ = some (.func (.func 121) #[] #[]) from (cell_of hs.hg 8).trans rfl) (by simp); clear hs h2)
        clear z0 z4 c1
        obtain ⟨w2, hw2, c2', b2⟩ := news1 w1 (.cells #[.int .i64 p.1, .int .i64 p.2.1, .int .i64 p.2.2] 78)
        rw [← hw2] at z8 ⊢
        have B2 := Lib.hid b2
        have C2 := Lib.hid (CG.out.trans (c2'.mono (S' := [g]) (by simp)))
        replace HQ := Lib.hid (HQ.out.chg c2' (by simp) (by simp))
        clear hw2 c2' b2
        generalize w1.heap.size = gp at *
        gi_wp2_with (refine ⟨trivial, ?_⟩; gi_at_call 121; refine (callsIn_wide.2 (KI.out _)).mono ?_; rintro e w3 ⟨rfl, hc⟩; have C3 := Lib.hid hc; have b3 := hc.at_ B2.out (by simp); have y0 := cell_of b3 0; have y1 := cell_of b3 1; have y2 := cell_of b3 2; simp only [List.getElem?_toArray, List.getElem?_cons_succ, List.getElem?_cons_zero] at y0 y1 y2; clear b3; obtain ⟨fn, tmps, assign, body, hy, hRn⟩ := HYF.out w3 (C2.out.trans (hc.mono (by simp))); clear hc)
        refine hRn.mono ?_
        clear y0 y1 y2 hy
        rintro e w4 (⟨rfl, hJ4, hk4⟩ | ⟨rfl, hx⟩)
        · have J4 := Lib.hid hJ4
          have K4 := Lib.hid hk4
          clear hJ4 hk4 hRn
          gi_wp2
          gi_roundg (dotsN la + dotsN lb)
          case measure => exact HG.out
          case rel => exact ⟨la', lb', pre ++ [p], ND, Lib.hid ((show SwP w3 g X la' lb' 121 from ⟨_, _, _, _, HQ.out.chg C3.out (by simp) (by simp)⟩).kpt K4.out hg1 hX), J4.out, Lib.hid (Nat.le_trans HN.out (Nat.le_trans C2.out.size (Nat.le_trans C3.out.size K4.out.size))), SO.out.dec⟩
        · have JX := Lib.hid hx
          clear hx hRn
          gi_wp2
          refine bodyPost_ret (results_none rfl _ _ _) rfl ?_
          exact ⟨⟨_, rfl⟩, .inr ⟨_, JX.out⟩⟩
      · skip
        gi_wp2_with (refine ⟨trivial, ?_⟩; gi_at_call 166; refine (callsIn_wide.2 ST.out).mono ?_; rintro e w1 ⟨rfl, h1, h2⟩; obtain ⟨A', c', B', d', hs⟩ := h1; have HQ := Lib.hid hs; have CG := Lib.hid h2; have z8 : (w1.alloc (.cells #[.int .i64 p.1, .int .i64 p.2.1, .int .i64 p.2.2] 78)).cell? ⟨g, 8, none⟩ = some (.func (.func 121) #[] #[]) := ((Chg.refl [] w1).alloc _).cell (show w1.cell? ⟨g, 8, none⟩ = some (.func (.func 121) #[] #[]) from (cell_of hs.hg 8).trans rfl) (by simp); clear hs h2)
        clear z0 z4 c1 c2
        obtain ⟨w2, hw2, c2', b2⟩ := news1 w1 (.cells #[.int .i64 p.1, .int .i64 p.2.1, .int .i64 p.2.2] 78)
        rw [← hw2] at z8 ⊢
        have B2 := Lib.hid b2
        have C2 := Lib.hid (CG.out.trans (c2'.mono (S' := [g]) (by simp)))
        replace HQ := Lib.hid (HQ.out.chg c2' (by simp) (by simp))
        clear hw2 c2' b2
        generalize w1.heap.size = gp at *
        gi_wp2_with (refine ⟨trivial, ?_⟩; gi_at_call 121; refine (callsIn_wide.2 (KI.out _)).mono ?_; rintro e w3 ⟨rfl, hc⟩; have C3 := Lib.hid hc; have b3 := hc.at_ B2.out (by simp); have y0 := cell_of b3 0; have y1 := cell_of b3 1; have y2 := cell_of b3 2; simp only [List.getElem?_toArray, List.getElem?_cons_succ, List.getElem?_cons_zero] at y0 y1 y2; clear b3; obtain ⟨fn, tmps, assign, body, hy, hRn⟩ := HYF.out w3 (C2.out.trans (hc.mono (by simp))); clear hc)
        refine hRn.mono ?_
        clear y0 y1 y2 hy
        rintro e w4 (⟨rfl, hJ4, hk4⟩ | ⟨rfl, hx⟩)
        · have J4 := Lib.hid hJ4
          have K4 := Lib.hid hk4
          clear hJ4 hk4 hRn
          gi_wp2
          gi_roundg (dotsN la + dotsN lb)
          case measure => exact HG.out
          case rel => exact ⟨la', lb', pre ++ [p], ND, Lib.hid ((show SwP w3 g X la' lb' 121 from ⟨_, _, _, _, HQ.out.chg C3.out (by simp) (by simp)⟩).kpt K4.out hg1 hX), J4.out, Lib.hid (Nat.le_trans HN.out (Nat.le_trans C2.out.size (Nat.le_trans C3.out.size K4.out.size))), SO.out.dec⟩
        · have JX := Lib.hid hx
          clear hx hRn
          gi_wp2
          refine bodyPost_ret (results_none rfl _ _ _) rfl ?_
          exact ⟨⟨_, rfl⟩, .inr ⟨_, JX.out⟩⟩
end
section
open Go.RowKit

theorem range_boundx {α : Type} {P : Program} {n : Nat} {g : Operand} {ps : Array Tmp} {assign body : Code} {Q : Exit → Act → World → Prop} {a : Act} {w : World} {gf : Nat} {lb bd : Array Value}
    (hg : a.eval g = .func (.func gf) bd lb) (eg : ∀ args w, (callFunc gf args).run P w = .ok (.enter gf args) w) {encs : α → Array Value} {S Sp : List α → Prop} {Ex : List α → α → World → Prop} {Bd : List α → Prop} {n₁ : Nat} (hn₁ : n₁ ≤ w.heap.size) {Si T : List Nat} (hSi : ∀ x ∈ Si, x < w.heap.size)
    (hseq : ∀ (l : Nat) (J Jx : List α → World → Prop) (W : World), Below w.heap.size w W → (∀ pre A B, J pre A → Chg Si A B → J pre B) → (∀ pre A B, Jx pre A → Chg Si A B → Jx pre B) → (∀ pre A, J pre A → Bd pre) →
      (∀ pre x W1, J pre W1 → Ex pre x W1 → YieldAt Fence.wide (n - 1 - 1) P l (encs x) W1 fun e W' => (e = .returned (.bool true) ∧ J (pre ++ [x]) W' ∧ Kpt n₁ T W1 W') ∨ (e = .returned (.bool false) ∧ Jx (pre ++ [x]) W')) →
      J [] W → CallsIn Fence.wide (n - 1) P gf ((bd ++ #[.func (.yield l) #[] #[]]) ++ lb) W fun e W' => (∃ v, e = .returned v) ∧ ((∃ xs, S xs ∧ J xs W') ∨ ∃ xs, Sp xs ∧ Jx xs W'))
    (hps : ∀ x, (encs x).size = ps.size) (I : List α → World → Prop) (Ix : Code → List α → World → Prop) (hI : ∀ pre A B, I pre A → Chg Si A B → I pre B) (hIx : ∀ c pre A B, Ix c pre A → Chg Si A B → Ix c pre B)
    (hIl : ∀ pre W l o o', W.heap[l]? = some o → o.isCells = false → w.heap.size ≤ l → I pre W → I pre (W.putObj l o')) (hIxl : ∀ c pre W l o o', W.heap[l]? = some o → o.isCells = false → w.heap.size ≤ l → Ix c pre W → Ix c pre (W.putObj l o')) (hBd : ∀ pre A, I pre A → Bd pre) (h0 : I [] w)
    (hEx : ∀ pre x W l o o', W.heap[l]? = some o → o.isCells = false → Ex pre x W → Ex pre x (W.putObj l o')) (hExA : ∀ pre x W o, Ex pre x W → Ex pre x (W.alloc o)) (ob : α → Obj) (hob : ∀ x, (ob x).isCells = true) (a₁ : α → Nat → Act)
    (hassign : ∀ (l : Nat) (x : α) (W : World) (K : Act → World → Prop), K (a₁ x W.heap.size) (W.alloc (ob x)) →
      assign.wpIn (Fence.wide.inRound l) (n - 1 - 1) P (Exit.then K (fun _ _ _ => False)) { tmps := (ps.zip (encs x)).foldl (fun t (p, v) => t.setIfInBounds p v) a.tmps, defers := [] } W)
    (hbody : ∀ (l nb : Nat) (pre : List α) (x : α) (W : World), n₁ ≤ nb → W.heap[nb]? = some (ob x) → I pre W → Ex pre x W → body.wpIn (Fence.wide.inRound l) (n - 1 - 1) P (brkPost I Ix n₁ T (pre ++ [x]) W) (a₁ x nb) W)
    (hdone : ∀ (D : Nat) (xs : List α) (W : World), w.heap.size ≤ D → S xs → I xs W → W.heap[D]? = some (.deferred (some [])) → Q .normal { a with defers := { target := .collected D, args := #[] } :: a.defers } W)
    (hstop : ∀ (D : Nat) (c : Code) (xs : List α) (W : World), w.heap.size ≤ D → Sp xs → Ix c xs W → W.heap[D]? = some (.deferred (some [])) → c.wpIn Fence.wide n P Q { a with defers := { target := .collected D, args := #[] } :: a.defers } W) :
    (Code.rangeFunc g ps assign body).wpIn Fence.wide n P Q a w := by
  refine wpIn_rangeFunc ?_
  intro fn hfn
  obtain ⟨rc, hrc⟩ : ∃ rc : LoopState → Option Code → Loop, rc = fun st pe => { state := st, pending := pe, fn, tmps := a.tmps, params := ps, assign, body, defers := w.heap.size } := ⟨_, rfl⟩
  obtain ⟨V, hV, hcV, hD0, hL0⟩ := news2 w (.deferred (some [])) (.loop (rc .ready none))
  have hsV : V.heap.size = w.heap.size + 2 := by rw [hV]; simp
  have bV : Below w.heap.size w V := by rw [hV]; exact ((Below.refl _ w).alloc (Nat.le_refl _) _).alloc (by simp) _
  refine ⟨w.heap.size + 1, [{ target := .collected w.heap.size, args := #[] }], V, { target := .fn (.func gf) lb, args := bd ++ #[.func (.yield (w.heap.size + 1)) #[] #[]] }, V, gf,
    (bd ++ #[.func (.yield (w.heap.size + 1)) #[] #[]]) ++ lb, V, ?_, ?_, fun _ _ => trivial, ?_, fun h => by simp [Fence.wide] at h, ?_⟩
  · rw [hV, hrc]; exact run_enterLoop_outer _ _ _ _ _
  · simp only [resolve, hg]
    simp [go_sem]
  · simp [invoke, go_sem, eg]
  · -- the record and the row of deferred calls, turned or not, lie at or behind w's end
    have turn : ∀ (W : World) (o : Obj) (o' : Obj), W.heap[w.heap.size + 1]? = some o → o.isCells = false → o.isWalk = false → ∀ m, m ≤ w.heap.size → Below m W (W.putObj (w.heap.size + 1) o') :=
      fun W o o' h hc hw m hm => belowK_b (w := w) hm W _ o o' (by omega) h hc hw
    have far : ∀ k, w.heap.size ≤ k → k ∉ Si := fun k hk h => by have := hSi k h; omega
    refine (hseq (w.heap.size + 1) (fun pre W => I pre W ∧ W.heap[w.heap.size + 1]? = some (.loop (rc .ready none)) ∧ W.heap[w.heap.size]? = some (.deferred (some [])))
      (fun pre W => ∃ c, Ix c pre W ∧ W.heap[w.heap.size + 1]? = some (.loop (rc .done (some c))) ∧ W.heap[w.heap.size]? = some (.deferred (some []))) V bV ?_ ?_ (fun pre A h => hBd _ _ h.1) ?_
      ⟨hI _ _ _ h0 (Chg.ofBelow bV (Nat.le_refl _) _), hL0, hD0⟩).mono ?_
    · rintro pre A B ⟨hi, hl, hk⟩ hb
      exact ⟨hI _ _ _ hi hb, hb.at_ hl (far _ (by omega)), hb.at_ hk (far _ (Nat.le_refl _))⟩
    · rintro pre A B ⟨c, hi, hl, hk⟩ hb
      exact ⟨c, hIx _ _ _ _ hi hb, hb.at_ hl (far _ (by omega)), hb.at_ hk (far _ (Nat.le_refl _))⟩
    · rintro pre x W0 ⟨hi0, hl0, hk0⟩ hx0
      have hy := run_yield (P := P) (args := encs x) hl0 (by rw [hrc]; exact hps x)
      rw [hrc] at hy
      have hz0 : n₁ ≤ W0.heap.size := by have := lt_of_heap hl0; omega
      obtain ⟨W, hWA, cA, bA⟩ := news1 W0 (ob x)
      have hi : I pre W := hI _ _ _ hi0 (cA.mono (by simp))
      have hl := cA.at_ hl0 (by simp)
      have hk := cA.at_ hk0 (by simp)
      have hx : Ex pre x W := by rw [hWA]; exact hExA _ _ _ _ hx0
      have hlt := lt_of_heap hl
      refine ⟨fn, _, assign, body, hy, roundIn_of_wpIn hfn (hassign _ x W0 _ ?_)⟩
      rw [← hWA]
      refine ⟨_, run_beginRound hl (by rw [hrc]), ?_⟩
      have hl2 : (W.putObj (w.heap.size + 1) (.loop { rc .ready none with state := .busy })).heap[w.heap.size + 1]? = some (.loop { rc .ready none with state := .busy }) := World.putObj_heap_same hlt
      have hk2 : (W.putObj (w.heap.size + 1) (.loop { rc .ready none with state := .busy })).heap[w.heap.size]? = some (.deferred (some [])) := (World.putObj_heap_other (by omega)).trans hk
      have b2 := turn W _ (.loop { rc .ready none with state := .busy }) hl rfl rfl
      refine wpIn_mono (hbody _ W0.heap.size pre x _ hz0 ((World.putObj_heap_other (fun e => by (first | rw [e] at bA | rw [← e] at bA); rw [hl] at bA; have h2 := hob x; rw [← Option.some.inj bA] at h2; exact absurd h2 (by simp [Obj.isCells]))).trans bA) (hIl _ _ _ _ _ hl rfl (by omega) hi) (hEx pre x W _ _ _ hl rfl hx)) ?_
      have fin : ∀ (c : Code) (W3 : World), KeepsOthers (W.putObj (w.heap.size + 1) (.loop { rc .ready none with state := .busy })) W3 → Ix c (pre ++ [x]) W3 →
          ∃ v w', (Instr.endRound (w.heap.size + 1) (some c)).run P W3 = .ok v w' ∧ ((Ending.returned v = .returned (.bool true) ∧ (I (pre ++ [x]) w' ∧ w'.heap[w.heap.size + 1]? = some (.loop (rc .ready none)) ∧ w'.heap[w.heap.size]? = some (.deferred (some []))) ∧ Kpt n₁ T W0 w') ∨
            (Ending.returned v = .returned (.bool false) ∧ ∃ c, Ix c (pre ++ [x]) w' ∧ w'.heap[w.heap.size + 1]? = some (.loop (rc .done (some c))) ∧ w'.heap[w.heap.size]? = some (.deferred (some [])))) := by
        intro c W3 hk3 hi3
        have hl3 := hk3.same _ _ hl2 rfl
        have hd3 := hk3.same _ _ hk2 rfl
        have hr := run_endRound (P := P) (some c) hl3
        have b4 := turn W3 _ (.loop (rc .done (some c))) hl3 rfl rfl
        refine ⟨_, _, hr, .inr ⟨rfl, c, ?_, ?_, ?_⟩⟩
        · have := hIxl _ _ _ _ _ (.loop (rc .done (some c))) hl3 rfl (by omega) hi3
          rw [hrc] at this ⊢
          exact this
        · rw [hrc]; exact World.putObj_heap_same (lt_of_heap hl3)
        · exact (World.putObj_heap_other (by omega)).trans hd3
      rintro e a3 W3 hp
      cases e with
      | normal =>
        obtain ⟨hk3, hb3, hi3⟩ := hp
        have hl3 := hk3.same _ _ hl2 rfl
        have hd3 := hk3.same _ _ hk2 rfl
        have hr := run_endRound (P := P) none hl3
        have b4 := turn W3 _ (.loop (rc .ready none)) hl3 rfl rfl
        refine ⟨_, _, hr, .inl ⟨rfl, ⟨?_, ?_, ?_⟩, ?_⟩⟩
        · have := hIl _ _ _ _ (.loop (rc .ready none)) hl3 rfl (by omega) hi3
          rw [hrc] at this ⊢
          exact this
        · rw [hrc]; exact World.putObj_heap_same (lt_of_heap hl3)
        · exact (World.putObj_heap_other (by omega)).trans hd3
        · have := (Kpt.of_chg (T := T) (cA.mono (by simp)) hz0).trans (((Kpt.of_below (T := T) (b2 _ hn₁) (Nat.le_refl _)).trans hb3).trans (Kpt.of_below (b4 _ hn₁) (Nat.le_refl _)))
          rw [hrc] at this ⊢
          exact this
      | ret => exact fin .ret W3 hp.1 hp.2
      | exit id => exact fin (.exit id) W3 hp.1 hp.2
      | goto t => exact hp.elim
      | panic ch => exact hp.elim
      | outgrown => exact hp.elim
    · rintro e W2 ⟨⟨v, rfl⟩, (⟨xs, hS, hi, hl, hk⟩ | ⟨xs, hS, c, hi, hl, hk⟩)⟩
      · refine ⟨none, _, by have := run_endLoop (P := P) hl (by rw [hrc]; simp); rw [hrc] at this; exact this, hdone _ xs _ (Nat.le_refl _) hS ?_ ((World.putObj_heap_other (by omega)).trans hk)⟩
        exact hIl _ _ _ _ _ hl rfl (by omega) hi
      · refine ⟨some c, _, by have := run_endLoop (P := P) hl (by rw [hrc]; simp); rw [hrc] at this; exact this, hstop _ c xs _ (Nat.le_refl _) hS ?_ ((World.putObj_heap_other (by omega)).trans hk)⟩
        exact hIxl _ _ _ _ _ _ hl rfl (by omega) hi
end
section
open Go.RowKit Go.Lib
set_option linter.unusedSimpArgs false
set_option linter.unusedVariables false
attribute [local go_sem] Oper.semAt_some


theorem kpt_chg {S T : List Nat} {n : Nat} {W w9 : World} (h : Chg S W w9) (hn : n ≤ W.heap.size) (hS : ∀ z ∈ S, n ≤ z ∨ z ∈ T) : Kpt n T W w9 :=
  ⟨h.os, h.tape, h.output, h.size, fun k hk hT => h.block k (by omega) (fun hm => by rcases hS k hm with e | e; omega; exact hT e)⟩
theorem keeps_chg {S : List Nat} {W w9 : World} (h : Chg S W w9) (hS : ∀ z ∈ S, ∀ o, W.heap[z]? = some o → o.isCells = true) : KeepsOthers W w9 := by
  refine ⟨h.size, fun k o hk ho => ?_⟩
  by_cases hm : k ∈ S
  · have := hS k hm o hk
    rw [ho] at this
    cases this
  · exact h.at_ hk hm
set_option maxRecDepth 100000 in
set_option maxHeartbeats 8000000 in
theorem merged_either (w : World) (g : Nat) (X : List Nat) (a b : List Sp) (h : SwP w g X a b 121) (hX : ∀ z ∈ X, z < w.heap.size) (ha : WfC a) (hb : WfC b) (hl : a.length + b.length ≤ 10000) :
    Calls Tryz.prog 122 #[.pointer (some ⟨g, 0, none⟩)] w fun e w' => ∃ pre, SwInv kE a b [] [] pre ∧ (((pre.foldl pushP []).length ≤ 4000 ∧ ∃ A c, e = .returned (.tuple #[.slice A (pre.foldl pushP []).length c, .int .i64 0]) ∧ OwnK spanTy w' A c (pre.foldl pushP []) ∧ ∀ y, A = some y → w.heap.size ≤ y.block) ∨ 4000 < (pre.foldl pushP []).length ∧ e = .returned (.tuple #[.slice none 0 0, .int .i64 8])) ∧ Chg [g] w w' := by
  have HS := Lib.hid h
  have LG := Lib.hid (show g < w.heap.size from by obtain ⟨_, _, _, _, q⟩ := h; exact lt_of_heap q.hg)
  clear h
  refine (callsIn_wide (n := 5)).1 ?_
  refine callsIn_of_wp_marks Tryz.func122 rfl trivial ?_ rfl
  simp only [Tryz.ntmps122, List.size_toArray, List.length_cons, List.length_nil, Nat.reduceAdd, Nat.reduceSub, Array.replicate_succ, Array.replicate_zero, List.push_toArray, List.append_toArray, List.nil_append, List.cons_append]
  obtain ⟨V, hV, CV, b0⟩ := news1 w (.cells #[.slice none 0 0] 22)
  have hsV : V.heap.size = w.heap.size + 1 := by rw [hV]; simp
  have HV := Lib.hid hV
  have BOXN := Lib.hid (show g ≠ w.heap.size from by have := LG.out; omega)
  clear hV
  gi_wp2
  rw [← HV.out]
  have lg := LG.out
  refine range_boundx (gf := 149) (bd := #[.pointer (some ⟨g, 0, none⟩)]) (lb := #[]) rfl (enters_of Tryz.func149 (by kernel_rfl) rfl) (encs := fun x : Sp => #[.agg #[.int .i64 x.1, .int .i64 x.2.1, .int .i64 x.2.2]]) (n₁ := V.heap.size) (Nat.le_refl _)
    (S := fun pre => SwInv kE a b [] [] pre) (Sp := fun _ => True) (Ex := fun pre x _ => B3 x ∧ (∀ y ∈ pre, Le y x) ∧ pre.length < potP a b ∧ ∀ n s, InS x n s → kE (memb a n s) (memb b n s) = true) (Bd := fun _ => True) (Si := [g]) (T := [w.heap.size]) ?si ?seq (fun _ => rfl)
    (fun pre W => ((∀ y ∈ pre, B3 y) ∧ pre.Pairwise Le) ∧ (∃ B d, W.heap[w.heap.size]? = some (.cells #[.slice B (pre.foldl pushP []).length d] 22 (0, 0)) ∧ OwnK spanTy W B d (pre.foldl pushP []) ∧ ∀ a, B = some a → V.heap.size ≤ a.block) ∧ Chg [g] w W ∧ V.heap.size ≤ W.heap.size)
    (fun _ _ _ => False) ?keep ?keepx ?kl ?kxl ?bd ⟨⟨by simp, List.Pairwise.nil⟩, ⟨none, 0, b0, OwnK.none_ _, by simp⟩, CV.mono (by simp), Nat.le_refl _⟩ ?elem ?elemA
    (fun x => .cells #[.int .i64 x.1, .int .i64 x.2.1, .int .i64 x.2.2] 78) (fun _ => rfl)
    (fun x nb => { tmps := #[.pointer (some ⟨g, 0, none⟩), undef, .slice none 0 0, .int .i64 0, .pointer (some ⟨w.heap.size, 0, none⟩), .pointer (some ⟨nb, 0, none⟩), .pointer (some ⟨g, 0, none⟩), .func (.func 149) #[.pointer (some ⟨g, 0, none⟩)] #[], .agg #[.int .i64 x.1, .int .i64 x.2.1, .int .i64 x.2.2], undef, undef, undef, undef, undef, undef, undef], defers := [] }) ?assign ?body ?done ?stop
  case si => intro x hx; simp at hx; omega
  case seq =>
    intro l' J Jx W hW hJ hJx hJb hY h0
    have hs2 := hW.size
    have sw : SwP W g X a b 121 := (HS.out.chg CV (by simp) (by simp)).chg (Chg.ofBelow hW (Nat.le_refl _) []) (by simp) (by simp)
    refine (kept_either 3 l' V.heap.size g [w.heap.size] X a b J Jx W ⟨by omega, by simp; omega⟩ (fun z hz => by have := hX z hz; simp; omega) (by omega) hJ hY sw ha hb h0).mono ?_
    rintro e W' ⟨h1, h2 | ⟨pre, h2⟩⟩
    · exact ⟨h1, .inl h2⟩
    · exact ⟨h1, .inr ⟨pre, trivial, h2⟩⟩
  case keep =>
    rintro pre A' B' ⟨hp, ⟨B, d, e1, hO, hB⟩, hC, hz⟩ hb
    exact ⟨hp, ⟨B, d, hb.at_ e1 (by simp; omega), hO.chg hb (fun a ha => by have := hB a ha; simp; omega), hB⟩, hC.trans hb, Nat.le_trans hz hb.size⟩
  case keepx => rintro c pre A B h; exact h.elim
  case kl =>
    rintro pre W l o o' hl ho hll ⟨hp, ⟨B, d, e1, hO, hB⟩, hC, hz⟩
    exact ⟨hp, ⟨B, d, (World.putObj_heap_other (by omega)).trans e1, hO.putl hl ho, hB⟩, hC.putl (by omega), by simpa [World.putObj] using hz⟩
  case kxl => rintro c pre W l o o' hl ho hll h; exact h.elim
  case bd => exact fun _ _ _ => trivial
  case elem => rintro pre x W l o o' hl ho hx; exact hx
  case elemA => rintro pre x W o hx; exact hx
  case assign =>
    intro l x W K hK
    clear hsV lg
    gi_wp2
    exact hK
  case body =>
    rintro l' nb pre x W hnb hbx ⟨hp, ⟨B, d, e1, hO, hB⟩, hC, hz⟩ ⟨hx, hle, hcnt, -⟩
    have HP := Lib.hid hp
    have HX3 := Lib.hid hx
    have HLE := Lib.hid hle
    have LEN : Hid ((pre.foldl pushP []).length ≤ 100000) := Lib.hid (by have h1 := (fold_props pre [] (by simp) hp.1).2; rw [List.length_nil, Nat.zero_add] at h1; have := pot_le a b; omega)
    have ALL := Lib.hid ((fold_props pre [] (by simp) hp.1).1)
    have SNOC : Hid ((pre ++ [x]).foldl pushP [] = pushP (pre.foldl pushP []) x) := Lib.hid (by simp)
    have HO := Lib.hid hO
    have F1 := Lib.hid e1
    have HC := Lib.hid hC
    have HZ := Lib.hid hz
    have HBB := Lib.hid hB
    have HSV := Lib.hid hsV
    have y0 := cell_of e1 0
    have x0 := cell_of hbx 0
    have x1 := cell_of hbx 1
    have x2 := cell_of hbx 2
    simp only [List.getElem?_toArray, List.getElem?_cons_succ, List.getElem?_cons_zero] at y0 x0 x1 x2
    clear hO e1 hC hz hB hsV lg hp hx hle hcnt hbx
    have PU := Lib.hid (push_any W d x B (pre.foldl pushP []) HO.out LEN.out ALL.out)
    generalize hout : pre.foldl pushP [] = out at *
    gi_wp2_with (refine ⟨trivial, ?_⟩; gi_at_call 150; refine (CallsIn.inRound l' (callsIn_wide.2 PU.out)).mono ?_; rintro e w9 ⟨A9, c9, rfl, ho, hA, hc⟩; have c99 := hc (blkOf B) (fun a ha => mem_blkOf ha); have hne : w.heap.size ∉ blkOf B := fun hm => (by obtain ⟨y, hy, e⟩ := of_blkOf hm; have := HBB.out y hy; have := HSV.out; omega); have p5 := c99.at_ F1.out hne; have k5 := cell_of p5 0; have f5 := free_of p5 0; simp only [List.getElem?_toArray, List.getElem?_cons_zero] at k5; have P5 := Lib.hid p5; have O9 := Lib.hid ho; have A9H := Lib.hid hA; have C9 := Lib.hid c99; clear ho hA hc c99 hne p5)
    have hsv := HSV.out
    have hz := HZ.out
    have hs9 := C9.out.size
    have nB : ∀ z ∈ blkOf B, V.heap.size ≤ z := fun z hz => by obtain ⟨y, hy, rfl⟩ := of_blkOf hz; exact HBB.out y hy
    have nA : ∀ y, A9 = some y → V.heap.size ≤ y.block := fun y hy => by
      rcases A9H.out with e | e
      · exact HBB.out y (e ▸ hy)
      · have := e y hy; omega
    have st := (Chg.refl [w.heap.size] w9).setCell (p := ⟨w.heap.size, 0, none⟩) (.inl (by simp)) (.slice A9 (pushP out x).length c9)
    refine ⟨(keeps_chg C9.out (fun z hz o ho => by obtain ⟨y, hy, rfl⟩ := of_blkOf hz; exact HO.out.cells _ _ (by rw [hy]; rfl) ho)).trans (KeepsOthers.setCell _ _ _), (kpt_chg (n := V.heap.size) (T := [w.heap.size]) C9.out hz (fun z hz => .inl (nB z hz))).trans (Kpt.of_chg st (by omega)), ⟨fun y hy => ?_, List.pairwise_append.2 ⟨HP.out.2, by simp, fun y hy z hz2 => by simp at hz2; subst hz2; exact HLE.out y hy⟩⟩, ⟨A9, c9, ?_, ?_, nA⟩, ?_, ?_⟩
    · rcases List.mem_append.1 hy with q | q
      · exact HP.out.1 y q
      · simp at q; subst q; exact HX3.out
    · have := heap_setCell_same w9 w.heap.size 0 _ _ (.slice A9 (pushP out x).length c9) P5.out
      rw [SNOC.out]
      simpa using this
    · rw [SNOC.out]
      exact O9.out.chg st (fun a ha => by have := nA a ha; simp; omega)
    · exact (HC.out.trans' C9.out (fun z hz => .inr (by have := nB z hz; omega))).trans' st (fun z hz => by simp at hz; subst hz; exact .inr (Nat.le_refl _))
    · have := st.size
      omega
  case done =>
    rintro D ys W hD hS ⟨hp, ⟨B, d, e1, hO, hB⟩, hC, hz⟩ hK
    have HSW := Lib.hid hS
    have HO := Lib.hid hO
    have HBB := Lib.hid hB
    have HC := Lib.hid hC
    have HSV := Lib.hid hsV
    have k1 := cell_of e1 0
    simp only [List.getElem?_toArray, List.getElem?_cons_zero] at k1
    clear hS e1 hO hB hC hz hp hsV lg
    by_cases hfew : (ys.foldl pushP []).length ≤ 4000
    · gi_wp2_with (refine ⟨trivial, ?_⟩; gi_at_call 151; refine (callsIn_wide.2 (bounded_few _ _ _ _ hfew)).mono ?_; rintro e w9 ⟨rfl, hc⟩; have C9 := Lib.hid hc; have k9 := hc.at_ hK (by simp); clear hc)
      refine ⟨by simp, .inl ⟨_, _, rfl, run_takeDeferred k9, ?_⟩⟩
      refine ⟨_, results_tmp2 rfl _ _ _, ys, HSW.out, .inl ⟨hfew, B, d, rfl, (HO.out.chg C9.out (by simp)).putl k9 rfl, fun y hy => by have := HBB.out y hy; have := HSV.out; omega⟩, (HC.out.trans (C9.out.mono (by simp))).putl (by have := HSV.out; omega)⟩
    · have hmany : 4000 < (ys.foldl pushP []).length := by omega
      gi_wp2_with (refine ⟨trivial, ?_⟩; gi_at_call 151; refine (callsIn_wide.2 (bounded_many _ _ _ _ hmany)).mono ?_; rintro e w9 ⟨rfl, hc⟩; have C9 := Lib.hid hc; have k9 := hc.at_ hK (by simp); clear hc)
      refine ⟨by simp, .inl ⟨_, _, rfl, run_takeDeferred k9, ?_⟩⟩
      refine ⟨_, results_tmp2 rfl _ _ _, ys, HSW.out, .inr ⟨hmany, rfl⟩, (HC.out.trans (C9.out.mono (by simp))).putl (by have := HSV.out; omega)⟩
  case stop => rintro D c xs V _ _ h; exact h.elim
end
section
open Go.RowKit Go.Lib
set_option linter.unusedSimpArgs false
set_option linter.unusedVariables false


set_option maxRecDepth 100000 in
set_option maxHeartbeats 4000000 in
theorem join_any (w : World) (A : Option Addr) (c : Nat) (xs : List Sp) (B : Option Addr) (d : Nat) (ys : List Sp) (h : RdK spanTy w A xs.length xs) (hc : xs.length ≤ c ∧ c ≤ maxLen) (ho : ∀ a, A = some a → a.block < w.heap.size) (h' : RdK spanTy w B ys.length ys) (hd : ys.length ≤ d ∧ d ≤ maxLen) (ho' : ∀ a, B = some a → a.block < w.heap.size) (hn : xs.length ≤ 140737488351232) (hm : ys.length ≤ 140737488351232) :
    Calls Tryz.prog 97 #[.slice A xs.length c, .slice B ys.length d] w fun e w' => ∃ A' c', e = .returned (.tuple #[.slice A' (joinE xs ys).2.length c', .int .i64 (joinE xs ys).1]) ∧ OwnK spanTy w' A' c' (joinE xs ys).2 ∧ (∀ a, A' = some a → w.heap.size ≤ a.block) ∧ Chg [] w w' := by
  have H := Lib.hid h
  have H' := Lib.hid h'
  have HC := Lib.hid hc
  have HD := Lib.hid hd
  have HO := Lib.hid ho
  have HO' := Lib.hid ho'
  have HN := Lib.hid (show xs.length ≤ 140737488351232 ∧ ys.length ≤ 140737488351232 from ⟨hn, hm⟩)
  clear h h' hc hd ho ho' hn hm
  have M := Lib.hid (may_any w A xs.length c xs H.out HN.out.1 B ys.length d ys H'.out HN.out.2)
  by_cases hk : chkS xs = 0 ∧ chkS ys = 0
  · have eE : joinE xs ys = boundP (tidyS (xs ++ ys)) := by unfold joinE; rw [if_pos hk]
    rw [decide_eq_true hk] at M
    rw [eE]
    generalize hRR : boundP (tidyS (xs ++ ys)) = RR
    have HRR := Lib.hid hRR
    clear hRR
    obtain ⟨wa, la⟩ := wf_of_chk hk.1
    obtain ⟨wb, lb⟩ := wf_of_chk hk.2
    have WA := Lib.hid wa
    have WB := Lib.hid wb
    have LL := Lib.hid (show xs.length + ys.length ≤ 10000 by omega)
    clear hk wa wb la lb eE
    go_enter Tryz.func97, Tryz.ntmps97
    go_wp2_with fail
    refine M.out.mono ?_
    rintro e w1 ⟨rfl, h1⟩
    have C1 := Lib.hid h1
    clear h1 M
    go_wp2_with fail
    refine (over_any w1 A c xs B d ys 121 (blkOf A ++ blkOf B) (H.out.chg C1.out (by simp)) HC.out (fun a ha => Nat.lt_of_lt_of_le (HO.out a ha) C1.out.size) (H'.out.chg C1.out (by simp)) HD.out (fun a ha => Nat.lt_of_lt_of_le (HO'.out a ha) C1.out.size) (fun a ha => List.mem_append_left _ (mem_blkOf ha)) (fun a ha => List.mem_append_right _ (mem_blkOf ha)) (fun z hz => ?_)).mono ?_
    · rcases List.mem_append.1 hz with e | e
      · obtain ⟨y, hy, rfl⟩ := of_blkOf e
        exact Nat.lt_of_lt_of_le (HO.out y hy) C1.out.size
      · obtain ⟨y, hy, rfl⟩ := of_blkOf e
        exact Nat.lt_of_lt_of_le (HO'.out y hy) C1.out.size
    rintro e w2 ⟨g, rfl, h1, h2, h3⟩
    have SW := Lib.hid h1
    have GG := Lib.hid h2
    have C2 := Lib.hid h3
    have BX : Hid (∀ z ∈ blkOf A ++ blkOf B, z < w2.heap.size) := Lib.hid (fun z hz => by
      have s1 := C1.out.size
      have s2 := C2.out.size
      rcases List.mem_append.1 hz with e | e
      · obtain ⟨y, hy, rfl⟩ := of_blkOf e
        have := HO.out y hy; omega
      · obtain ⟨y, hy, rfl⟩ := of_blkOf e
        have := HO'.out y hy; omega)
    clear h1 h2 h3
    go_wp2_with fail
    refine (merged_either w2 g _ xs ys SW.out BX.out WA.out WB.out LL.out).mono ?_
    rintro e w3 ⟨pre, hs, hor, hc3⟩
    rw [join_eq WA.out WB.out hs] at hor
    have C3 := Lib.hid ((C1.out.trans C2.out).trans' hc3 (fun z hz => by simp at hz; subst hz; exact .inr (Nat.le_trans C1.out.size GG.out)))
    have S2 := Lib.hid (show w.heap.size ≤ w2.heap.size from Nat.le_trans C1.out.size C2.out.size)
    clear hs hc3
    generalize tidyS (xs ++ ys) = R at *
    rcases hor with ⟨hl, A', c', rfl, hO, hA⟩ | ⟨hl, rfl⟩
    · have eB : boundP R = (0, R) := by unfold boundP; rw [if_neg (by omega)]
      obtain rfl : RR = (0, R) := by rw [← HRR.out]; exact eB
      have OO := Lib.hid hO
      have AA := Lib.hid hA
      clear hO hA hl eB
      go_wp2
      go_ret2
      exact ⟨A', c', rfl, OO.out, fun a ha => Nat.le_trans S2.out (AA.out a ha), C3.out⟩
    · have eB : boundP R = (8, []) := by unfold boundP; rw [if_pos hl]
      obtain rfl : RR = (8, []) := by rw [← HRR.out]; exact eB
      clear hl eB
      go_wp2
      go_ret2
      exact ⟨none, 0, rfl, OwnK.none_ _, by simp, C3.out⟩
  · have eE : joinE xs ys = (2, []) := by unfold joinE; rw [if_neg hk]
    rw [decide_eq_false hk] at M
    rw [eE]
    clear hk eE
    go_enter Tryz.func97, Tryz.ntmps97
    go_wp2_with fail
    refine M.out.mono ?_
    rintro e w1 ⟨rfl, h1⟩
    have C1 := Lib.hid h1
    clear h1 M
    go_wp2
    go_ret2
    exact ⟨none, 0, rfl, OwnK.none_ _, by simp, C1.out⟩
end
section
open Go.RowKit Go.Lib
set_option linter.unusedSimpArgs false
set_option linter.unusedVariables false


set_option maxRecDepth 100000 in
set_option maxHeartbeats 4000000 in
theorem add_any (w : World) (A : Option Addr) (c : Nat) (xs : List Sp) (n s : Int) (h : RdK spanTy w A xs.length xs) (hc : xs.length ≤ c ∧ c ≤ maxLen) (ho : ∀ a, A = some a → a.block < w.heap.size) (hn : xs.length ≤ 140737488351232) :
    Calls Tryz.prog 64 #[.slice A xs.length c, .agg #[.int .i64 n, .int .i64 s]] w fun e w' => ∃ A' c', e = .returned (.tuple #[.slice A' (joinE xs [(n, s, s)]).2.length c', .int .i64 (joinE xs [(n, s, s)]).1]) ∧ OwnK spanTy w' A' c' (joinE xs [(n, s, s)]).2 ∧ (∀ a, A' = some a → w.heap.size ≤ a.block) ∧ Chg [] w w' := by
  obtain ⟨w1, hw1, c1, b1⟩ := news1 w (.cells #[.int .i64 n, .int .i64 s] 26)
  have W1 := Lib.hid hw1
  have C1 := Lib.hid c1
  have B1 := Lib.hid b1
  have H := Lib.hid (h.chg c1 (by simp))
  have HC := Lib.hid hc
  have HO := Lib.hid (fun a ha => Nat.lt_of_lt_of_le (ho a ha) c1.size)
  have HN := Lib.hid hn
  clear hw1 c1 b1 h hc ho hn
  go_enter Tryz.func64, Tryz.ntmps64
  go_upto_region 1 with fail
  rw [← W1.out]
  generalize hg0 : w.heap.size = g0 at *
  have z0 := cell_of B1.out 0
  have z1 := cell_of B1.out 1
  simp only [List.getElem?_toArray, List.getElem?_cons_succ, List.getElem?_cons_zero] at z0 z1
  go_wp2_with fail
  refine (alone_any w1 n s).mono ?_
  rintro e w2 ⟨rfl, hc⟩
  have C2 := Lib.hid (C1.out.trans hc)
  replace H := Lib.hid (H.out.chg hc (by simp))
  replace HO := Lib.hid (fun a ha => Nat.lt_of_lt_of_le (HO.out a ha) hc.size)
  clear hc z0 z1
  obtain ⟨w3, hw3, c3, b3⟩ := news1 w2 (.cells #[.int .i64 n, .int .i64 s, .int .i64 s] 78)
  have W3 := Lib.hid hw3
  have HR := Lib.hid (rd_oneS (x := (n, s, s)) b3)
  have LT := Lib.hid (lt_of_heap b3)
  replace H := Lib.hid (H.out.chg c3 (by simp))
  replace HO := Lib.hid (fun a ha => Nat.lt_of_lt_of_le (HO.out a ha) c3.size)
  have C3 := Lib.hid (C2.out.trans c3)
  clear hw3 c3 b3
  generalize hjj : joinE xs [(n, s, s)] = jj at *
  have HJJ := Lib.hid hjj
  clear hjj
  go_wp2_with fail
  rw [← W3.out]
  refine (join_any w3 A c xs (some ⟨w2.heap.size, 0, none⟩) 1 [(n, s, s)] H.out HC.out HO.out HR.out ⟨Nat.le_refl _, by simp [maxLen]⟩ (fun a ha => by cases ha; exact LT.out) HN.out (by simp)).mono ?_
  rintro e w4 ⟨A', c', rfl, h1, h2, h3⟩
  have e9 := HJJ.out
  subst e9
  have O4 := Lib.hid h1
  have N4 := Lib.hid h2
  have C4 := Lib.hid (C3.out.trans h3)
  have SZ := Lib.hid C3.out.size
  clear h1 h2 h3
  go_wp2
  go_ret2
  exact ⟨A', c', rfl, O4.out, fun a ha => by have := N4.out a ha; have := SZ.out; omega, C4.out⟩
end
section
open Go.RowKit Go.Lib
set_option linter.unusedSimpArgs false
set_option linter.unusedVariables false


set_option maxRecDepth 100000 in
set_option maxHeartbeats 8000000 in
theorem edwith_any (w : World) (n : Int) (B : Option Addr) (bc : Nat) (q : List Sp) (a s : Int) (h : RdK spanTy w B q.length q) (hb : q.length ≤ bc ∧ bc ≤ maxLen) (ho : ∀ x, B = some x → x.block < w.heap.size) (hn : q.length ≤ 140737488351232) :
    Calls Tryz.prog 32 #[.agg #[.int .i64 n, .slice B q.length bc], .agg #[.int .i64 a, .int .i64 s]] w fun r w' => ∃ A' c', r = .returned (.tuple #[.agg #[.int .i64 n, .slice A' (joinE q [(a, s, s)]).2.length c'], .int .i64 (joinE q [(a, s, s)]).1]) ∧ OwnK spanTy w' A' c' (joinE q [(a, s, s)]).2 ∧ (∀ x, A' = some x → w.heap.size ≤ x.block) ∧ Chg [] w w' := by
  obtain ⟨w1, hw, hc, b0, b1, b2⟩ := news3 w (.cells #[.int .i64 n, .slice B q.length bc] 61) (.cells #[.int .i64 a, .int .i64 s] 26) (.cells #[.int .i64 0, .slice none 0 0] 61)
  have W1 := Lib.hid hw
  have H := Lib.hid (h.chg hc (by simp))
  have HO := Lib.hid (fun x hx => Nat.lt_of_lt_of_le (ho x hx) hc.size)
  have C := Lib.hid (hc)
  have B0 := Lib.hid (b0)
  have B1 := Lib.hid (b1)
  have B2 := Lib.hid (b2)
  have HN := Lib.hid (hn)
  have HB := Lib.hid (hb)
  generalize hv : joinE q [(a, s, s)] = v
  have HV := Lib.hid hv
  clear hw hc b0 b1 b2 h hn hb ho hv
  go_enter Tryz.func32, Tryz.ntmps32
  go_upto_region 1 with fail
  rw [← W1.out]
  generalize hz2 : w.heap.size + 2 = g2 at *
  generalize hz1 : w.heap.size + 1 = g1 at *
  generalize hz0 : w.heap.size = g0 at *
  have Z := Lib.hid (And.intro hz0 (And.intro hz1 (hz2)))
  have n01 : ¬ g0 = g1 := by omega
  have n02 : ¬ g0 = g2 := by omega
  have n10 : ¬ g1 = g0 := by omega
  have n12 : ¬ g1 = g2 := by omega
  have n20 : ¬ g2 = g0 := by omega
  have n21 : ¬ g2 = g1 := by omega
  clear W1 hz0 hz1 hz2
  have z0 := cell_of B0.out 0
  have z1 := cell_of B0.out 1
  simp only [List.getElem?_toArray, List.getElem?_cons_succ, List.getElem?_cons_zero] at z0 z1
  have y0 := cell_of B1.out 0
  have y1 := cell_of B1.out 1
  simp only [List.getElem?_toArray, List.getElem?_cons_succ, List.getElem?_cons_zero] at y0 y1
  go_wp2_with fail
  clear z0 z1
  clear y0 y1
  refine (add_any w1 B bc q a s H.out HB.out HO.out HN.out).mono ?_
  rintro r w2 ⟨A2, c2, rfl, ho, hnw, hc⟩
  rw [HV.out] at ho ⊢
  have O := Lib.hid ho
  have N : Hid (∀ x, A2 = some x → g2 < x.block) := Lib.hid (fun x hx => by have := hnw x hx; have := lt_of_heap B2.out; omega)
  replace C := Lib.hid (C.out.trans hc)
  replace B0 := Lib.hid (hc.at_ B0.out (by simp))
  replace B1 := Lib.hid (hc.at_ B1.out (by simp))
  replace B2 := Lib.hid (hc.at_ B2.out (by simp))
  clear ho hnw hc
  obtain ⟨e, l⟩ := v
  have z0 := cell_of B0.out 0
  have z1 := cell_of B0.out 1
  have fz0 := free_of B0.out 0
  have fz1 := free_of B0.out 1
  simp only [List.getElem?_toArray, List.getElem?_cons_succ, List.getElem?_cons_zero] at z0 z1
  go_upto_region 3 with fail
  clear z0 z1 fz0 fz1
  have p0 : (w2.setCell ⟨g0, 1, none⟩ (.slice A2 l.length c2)).heap[g0]? = some (.cells #[.int .i64 n, .slice A2 l.length c2] 61 (0, 0)) := heap_setCell_same _ g0 1 _ _ (.slice A2 l.length c2) B0.out
  have k0 := (Chg.refl [g0] w2).put' 1 (.slice A2 l.length c2)
  have p2 := k0.at_ B2.out (by simp; exact n20)
  have o3 := O.out.chg k0 (fun x hx => by have := N.out x hx; have := Z.out; simp; omega)
  have c3 := C.out.trans' k0 (fun i hi => .inr (by have := Z.out; simp at hi; omega))
  generalize (w2.setCell ⟨g0, 1, none⟩ (.slice A2 l.length c2)) = w3 at *
  replace B0 := Lib.hid p0
  replace B2 := Lib.hid p2
  replace O := Lib.hid o3
  replace C := Lib.hid c3
  clear p0 p2 o3 c3 k0 B1
  have z0 := cell_of B0.out 0
  have z1 := cell_of B0.out 1
  simp only [List.getElem?_toArray, List.getElem?_cons_succ, List.getElem?_cons_zero] at z0 z1
  have t0 := cell_of B2.out 0
  have t1 := cell_of B2.out 1
  have ft0 := free_of B2.out 0
  have ft1 := free_of B2.out 1
  simp only [List.getElem?_toArray, List.getElem?_cons_succ, List.getElem?_cons_zero] at t0 t1
  go_wp2
  refine bodyPost_ret (v := .tuple #[.agg #[.int .i64 n, .slice A2 l.length c2], .int .i64 e]) (by simp [results, Tryz.results32, go_sem, t0, t1]) rfl ?_
  exact ⟨A2, c2, rfl, O.out.chg (((Chg.refl [g2] w3).put' 0 _).put' 1 _) (fun x hx => by have := N.out x hx; simp; omega), (fun x hx => by have := N.out x hx; have := Z.out; omega), C.out.trans' (((Chg.refl [g2] w3).put' 0 _).put' 1 _) (fun i hi => .inr (by have := Z.out; simp at hi; omega))⟩

set_option maxRecDepth 100000 in
set_option maxHeartbeats 8000000 in
theorem edlearn_any (w : World) (n : Int) (B : Option Addr) (bc : Nat) (q : List Sp) (a s : Int) (h : RdK spanTy w B q.length q) (hb : q.length ≤ bc ∧ bc ≤ maxLen) (ho : ∀ x, B = some x → x.block < w.heap.size) (hn : q.length ≤ 140737488351232) :
    Calls Tryz.prog 8 #[.agg #[.int .i64 n, .slice B q.length bc], .agg #[.int .i64 a, .int .i64 s]] w fun r w' => ∃ A' c', r = .returned (.tuple #[.agg #[.int .i64 (learnA n q a s).2.1, .slice A' (learnA n q a s).2.2.length c'], .int .i64 (learnA n q a s).1]) ∧ OwnK spanTy w' A' c' (learnA n q a s).2.2 ∧ (∀ a, A' = some a → w.heap.size ≤ a.block) ∧ Chg [] w w' := by
  obtain ⟨w1, hw, hc, b0, b1, b2⟩ := news3 w (.cells #[.int .i64 n, .slice B q.length bc] 24) (.cells #[.int .i64 a, .int .i64 s] 26) (.cells #[.int .i64 0, .slice none 0 0] 24)
  have W1 := Lib.hid hw
  have H := Lib.hid (h.chg hc (by simp))
  have C := Lib.hid (hc)
  have B0 := Lib.hid (b0)
  have B1 := Lib.hid (b1)
  have B2 := Lib.hid (b2)
  have HN := Lib.hid (hn)
  have HO := Lib.hid (fun x hx => Nat.lt_of_lt_of_le (ho x hx) hc.size)
  have HB := Lib.hid (hb)
  generalize hv : learnA n q a s = v
  have HV := Lib.hid hv
  clear hw hc b0 b1 b2 h hn hb ho hv
  go_enter Tryz.func8, Tryz.ntmps8
  go_upto_region 1 with fail
  rw [← W1.out]
  generalize hz2 : w.heap.size + 2 = g2 at *
  generalize hz1 : w.heap.size + 1 = g1 at *
  generalize hz0 : w.heap.size = g0 at *
  have Z := Lib.hid (And.intro hz0 (And.intro hz1 (hz2)))
  have n01 : ¬ g0 = g1 := by omega
  have n02 : ¬ g0 = g2 := by omega
  have n10 : ¬ g1 = g0 := by omega
  have n12 : ¬ g1 = g2 := by omega
  have n20 : ¬ g2 = g0 := by omega
  have n21 : ¬ g2 = g1 := by omega
  clear W1 hz0 hz1 hz2
  have z0 := cell_of B0.out 0
  have z1 := cell_of B0.out 1
  simp only [List.getElem?_toArray, List.getElem?_cons_succ, List.getElem?_cons_zero] at z0 z1
  go_wp2_with fail
  clear z0 z1
  refine (edcheck_any w1 n B q.length bc q H.out HN.out).mono ?_
  rintro r w2 ⟨rfl, hc⟩
  replace C := Lib.hid (C.out.trans hc)
  replace B0 := Lib.hid (hc.at_ B0.out (by simp))
  replace B1 := Lib.hid (hc.at_ B1.out (by simp))
  replace B2 := Lib.hid (hc.at_ B2.out (by simp))
  replace H := Lib.hid (H.out.chg hc (by simp))
  replace HO := Lib.hid (fun x hx => Nat.lt_of_lt_of_le (HO.out x hx) hc.size)
  clear hc
  rcases chkA_two n q with hk | hk
  rotate_left
  · skip
    obtain rfl : v = (2, 0, []) := by rw [← HV.out]; unfold learnA; rw [if_neg (by rw [hk]; decide)]
    rw [hk]
    clear hk
    have t0 := cell_of B2.out 0
    have t1 := cell_of B2.out 1
    have ft0 := free_of B2.out 0
    have ft1 := free_of B2.out 1
    simp only [List.getElem?_toArray, List.getElem?_cons_succ, List.getElem?_cons_zero] at t0 t1
    go_wp2
    refine bodyPost_ret (v := .tuple #[.agg #[.int .i64 0, .slice none 0 0], .int .i64 2]) (by simp [results, Tryz.results8, go_sem, t0, t1]) rfl ?_
    exact ⟨none, 0, rfl, OwnK.none_ _, by simp, C.out.trans' (((Chg.refl [g2] w2).put' 0 _).put' 1 _) (fun i hi => .inr (by have := Z.out; simp at hi; omega))⟩
  have LV : Hid (v = if (joinE q [(a, s, s)]).1 = 0 then (0, n, (joinE q [(a, s, s)]).2) else ((joinE q [(a, s, s)]).1, 0, [])) := Lib.hid (by rw [← HV.out]; unfold learnA; rw [if_pos hk])
  rw [hk]
  clear hk HV
  have z0 := cell_of B0.out 0
  have z1 := cell_of B0.out 1
  simp only [List.getElem?_toArray, List.getElem?_cons_succ, List.getElem?_cons_zero] at z0 z1
  have y0 := cell_of B1.out 0
  have y1 := cell_of B1.out 1
  simp only [List.getElem?_toArray, List.getElem?_cons_succ, List.getElem?_cons_zero] at y0 y1
  go_wp2_with fail
  clear z0 z1
  clear y0 y1
  refine (edwith_any w2 n B bc q a s H.out HB.out HO.out HN.out).mono ?_
  rintro r w3 ⟨A3, c3, rfl, ho, hnw, hc⟩
  generalize joinE q [(a, s, s)] = j at *
  obtain ⟨e, l⟩ := j
  have LW : Hid (v = if e = 0 then (0, n, l) else (e, 0, [])) := Lib.hid LV.out
  have O := Lib.hid ho
  have N : Hid (∀ x, A3 = some x → g2 < x.block) := Lib.hid (fun x hx => by have := hnw x hx; have := lt_of_heap B2.out; omega)
  replace C := Lib.hid (C.out.trans hc)
  replace B2 := Lib.hid (hc.at_ B2.out (by simp))
  clear ho hnw hc LV
  dsimp only at O ⊢
  obtain ⟨w4, hw, hc, b6⟩ := news1 w3 (.cells #[.int .i64 n, .slice A3 l.length c3] 61)
  have W4 := Lib.hid hw
  have B6 := Lib.hid b6
  have N6 : Hid (¬ g2 = w3.heap.size) := Lib.hid (by have := lt_of_heap B2.out; omega)
  replace O := Lib.hid (O.out.chg hc (by simp))
  replace C := Lib.hid (C.out.trans hc)
  replace B2 := Lib.hid (hc.at_ B2.out (by simp))
  clear hw hc b6
  go_upto_region 4 with fail
  rw [← W4.out]
  generalize w3.heap.size = g6 at *
  have n26 : ¬ g2 = g6 := N6.out
  have n62 : ¬ g6 = g2 := fun h => n26 h.symm
  clear W4
  by_cases he : e = 0
  rotate_left
  · skip
    obtain rfl : v = (e, 0, []) := by rw [LW.out, if_neg he]
    have e1 : ((e != 0) : Bool) = true := bne_iff_ne.2 he
    have e2 : ((e == 0) : Bool) = false := beq_eq_false_iff_ne.2 he
    have t0 := cell_of B2.out 0
    have t1 := cell_of B2.out 1
    have ft0 := free_of B2.out 0
    have ft1 := free_of B2.out 1
    simp only [List.getElem?_toArray, List.getElem?_cons_succ, List.getElem?_cons_zero] at t0 t1
    have z0 := cell_of B6.out 0
    have z1 := cell_of B6.out 1
    simp only [List.getElem?_toArray, List.getElem?_cons_succ, List.getElem?_cons_zero] at z0 z1
    go_wp2
    refine bodyPost_ret (v := .tuple #[.agg #[.int .i64 0, .slice none 0 0], .int .i64 e]) (by simp [results, Tryz.results8, go_sem, t0, t1]) rfl ?_
    exact ⟨none, 0, rfl, OwnK.none_ _, by simp, C.out.trans' (((Chg.refl [g2] w4).put' 0 _).put' 1 _) (fun i hi => .inr (by have := Z.out; simp at hi; omega))⟩
  subst he
  obtain rfl : v = (0, n, l) := by rw [LW.out, if_pos rfl]
  have t0 := cell_of B2.out 0
  have t1 := cell_of B2.out 1
  have ft0 := free_of B2.out 0
  have ft1 := free_of B2.out 1
  simp only [List.getElem?_toArray, List.getElem?_cons_succ, List.getElem?_cons_zero] at t0 t1
  have z0 := cell_of B6.out 0
  have z1 := cell_of B6.out 1
  simp only [List.getElem?_toArray, List.getElem?_cons_succ, List.getElem?_cons_zero] at z0 z1
  go_wp2
  refine bodyPost_ret (v := .tuple #[.agg #[.int .i64 n, .slice A3 l.length c3], .int .i64 0]) (by simp [results, Tryz.results8, go_sem, t0, t1]) rfl ?_
  exact ⟨A3, c3, rfl, O.out.chg (((Chg.refl [g2] w4).put' 0 _).put' 1 _) (fun x hx => by have := N.out x hx; simp; omega), (fun x hx => by have := N.out x hx; have := Z.out; omega), C.out.trans' (((Chg.refl [g2] w4).put' 0 _).put' 1 _) (fun i hi => .inr (by have := Z.out; simp at hi; omega))⟩
end
end Go.Proofs.YtgafkaigkaghcaaGreatDoor
