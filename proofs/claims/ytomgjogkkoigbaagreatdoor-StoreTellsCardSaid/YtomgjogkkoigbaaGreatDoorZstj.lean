/- The kit's CopyEvents. The document's own: an event in memory of its own. The document's own (store): events in memory of their own. past.Has: how a span lies to a dot. past.Has: a dot is looked for. past.Has. The document's Check of a past. The document's Has, Count, Last. The document's ahead. The document's Check of a dot, as the past sees it. What is joined, and left: plain functions. No function of the program is named here. past.bounded, past.alone. past.push. past.push behind a span. -/
import Derived.Test.YtomgjogkkoigbaaGreatDoorZste
import Derived.Test.YtomgjogkkoigbaaGreatDoorZstd
import Derived.Test.YtomgjogkkoigbaaGreatDoorZsti
import Derived.Deep.Cut
import Derived.Test.YtomgjogkkoigbaaGreatDoorZstc
import Derived.Deep.QuietTactic
import Derived.BigQuiet
import Derived.RegionTactic
import Derived.Deep.RegionHeld3
set_option linter.unusedSimpArgs false
set_option linter.unusedVariables false
namespace Go.Proofs.YtomgjogkkoigbaaGreatDoor
section
open Go.RowKit Go.Lib


theorem fresh_appE {w2 w w' : World} {A A' : Option Addr} (hA : ∀ a, A = some a → w2.heap.size ≤ a.block) (hC : Chg [] w2 w) (g : w.grownBy w' (A.map (·.block))) (e : A' = A ∨ A' = some ⟨w.heap.size, 0, none⟩) :
  (∀ a, A' = some a → w2.heap.size ≤ a.block) ∧ Chg [] w2 w' := by
 refine ⟨?_, hC.grown g ?_⟩
 ·
  rintro a ha
  rcases e with rfl | rfl
  ·
   exact hA a ha
  ·
   cases ha; exact hC.size
 ·
  rintro i hi
  cases A with
  | none => simp at hi
  | some a => simp at hi; subst hi; exact .inr (hA a rfl)
theorem rd_oneEc {w : World} {g : Nat} {X : EvT} (h : w.heap[g]? = some (.cells #[.int .i64 X.n, .int .i64 X.s, .string X.p, .int .i64 X.k, .int .i64 X.m, .slice X.A X.l X.c, .slice X.B X.bl X.bc] 30)) : RdK evTy w (some ⟨g, 0, none⟩) 1 [X] :=
 ⟨rfl, fun j v hj => ⟨_, rfl, by rw [add_zero_lit, cell_of h j]; simpa [RowTy.flat, evTy] using hj⟩⟩
def ApartE (w : World) (A : Option Addr) (xs : List EvT) : Prop := ∀ x ∈ xs, (∀ a, x.A = some a → a.block < w.heap.size ∧ ∀ b, A = some b → a.block ≠ b.block) ∧ (∀ a, x.B = some a → a.block < w.heap.size ∧ ∀ b, A = some b → a.block ≠ b.block) ∧ x.bl ≤ x.bc ∧ x.bc ≤ maxLen
theorem EvsR.snoc {w : World} {xs : List EvT} {es : List EvP} {x : EvT} {e : EvP} (h : EvsR w xs es) (r : EvR w x e) : EvsR w (xs ++ [x]) (es ++ [e]) := by
 refine ⟨by simp [h.1], fun i y f hy hf => ?_⟩
 by_cases q : i < xs.length
 ·
  rw [List.getElem?_append_left q] at hy
  rw [List.getElem?_append_left (by rw [← h.1]; exact q)] at hf
  exact h.2 i y f hy hf
 ·
  rw [List.getElem?_append_right (by omega)] at hy
  rw [List.getElem?_append_right (by rw [← h.1]; omega), ← h.1] at hf
  have hi := (List.getElem?_eq_some_iff.1 hy).1
  simp at hi
  rw [hi] at hy hf
  simp at hy hf
  subst hy hf
  exact r
theorem EvR.chgS {S : List Nat} {w w' : World} {x : EvT} {e : EvP} (h : EvR w x e) (hc : Chg S w w') (hA : ∀ a, x.A = some a → a.block ∉ S) (hB : ∀ a, x.B = some a → a.block ∉ S) : EvR w' x e := ⟨h.n, h.s, h.p, h.k, h.m, h.l, h.bl, h.A.chg hc hA, h.B.chg hc hB⟩
theorem EvsR.chgS {S : List Nat} {w w' : World} {xs : List EvT} {es : List EvP} (h : EvsR w xs es) (hc : Chg S w w') (hS : ∀ x ∈ xs, (∀ a, x.A = some a → a.block ∉ S) ∧ (∀ a, x.B = some a → a.block ∉ S)) : EvsR w' xs es :=
 ⟨h.1, fun i x e hx he => (h.2 i x e hx he).chgS hc (hS x (List.mem_of_getElem? hx)).1 (hS x (List.mem_of_getElem? hx)).2⟩
end
section
open Go.RowKit Go.Lib


theorem app_ownk {w w6 w7 : World} {B A2 : Option Addr} (hB : ∀ a, B = some a → w.heap.size ≤ a.block) (hC : Chg [] w w6) (d2 : w6.grownBy w7 (B.map (·.block))) (e2 : A2 = B ∨ A2 = some ⟨w6.heap.size, 0, none⟩) : (∀ a, A2 = some a → w.heap.size ≤ a.block) ∧ Chg [] w w7 := by
 refine ⟨?_, hC.grown d2 (fun i hi => ?_)⟩
 ·
  rcases e2 with rfl | rfl
  ·
   exact hB
  ·
   rintro a ⟨⟩; exact hC.size
 ·
  cases B with
  | none => simp at hi
  | some a => simp at hi; subst hi; exact .inr (hB a rfl)
end
section
open Go.RowKit Go.Lib


theorem box5 {w w0 : World} {z s0 : Nat} {a0 a1 a2 a3 a4 a5 a6 : Value} {T : TypeId} (v5 : Value) (q0 : w.heap[s0]? = some (.cells #[a0, a1, a2, a3, a4, a5, a6] T (0, 0))) (hz : z ≤ s0) (C : Chg [] w0 w) (hw0 : w0.heap.size = z) :
 (w.setCell ⟨s0, 5, none⟩ v5).heap[s0]? = some (.cells #[a0, a1, a2, a3, a4, v5, a6] T (0, 0)) ∧ Chg [] w0 (w.setCell ⟨s0, 5, none⟩ v5) := ⟨heap_setCell_same _ s0 5 _ _ v5 q0, C.put (by omega) 5 v5⟩
theorem box6 {w w0 : World} {z s0 : Nat} {a0 a1 a2 a3 a4 a5 a6 : Value} {T : TypeId} (v6 : Value) (q0 : w.heap[s0]? = some (.cells #[a0, a1, a2, a3, a4, a5, a6] T (0, 0))) (hz : z ≤ s0) (C : Chg [] w0 w) (hw0 : w0.heap.size = z) :
 (w.setCell ⟨s0, 6, none⟩ v6).heap[s0]? = some (.cells #[a0, a1, a2, a3, a4, a5, v6] T (0, 0)) ∧ Chg [] w0 (w.setCell ⟨s0, 6, none⟩ v6) := ⟨heap_setCell_same _ s0 6 _ _ v6 q0, C.put (by omega) 6 v6⟩

set_option maxRecDepth 100000 in
set_option maxHeartbeats 16000000 in
theorem ktown_any (w : World) (A : Option Addr) (c : Nat) (xs : List EvT) (es : List EvP) (h : RdK evTy w A xs.length xs) (hx : EvsR w xs es) (hn : xs.length ≤ 100000) (hs : ∀ e ∈ es, e.b.length ≤ 140737488351232 ∧ e.q.length ≤ 100000) :
  Calls Tryz.prog 52 #[.slice A xs.length c] w fun r w' => ∃ (A' : Option Addr) (c' : Nat) (zs : List EvT), r = .returned (.slice A' zs.length c') ∧ RdK evTy w' A' zs.length zs ∧ EvsR w' zs es ∧ Chg [] w w' := by
 have RR := Lib.hid h
 have RE := Lib.hid hx
 have ZL := Lib.hid hn
 have CQ := Lib.hid hs
 clear h hx hn hs
 go_enter Tryz.func52, Tryz.ntmps52
 go_wp2
 go_loopw [3, 4] (fun o i wq => ∃ (k : Nat) (A2 : Option Addr) (d2 : Nat) (us : List EvT), k ≤ xs.length ∧ us.length = k ∧ i = .int .i64 k ∧ o = .slice A2 us.length d2 ∧ Hid (OwnK evTy wq A2 d2 us) ∧ Hid (EvsR wq us (es.take k)) ∧ Hid (ApartE wq A2 us) ∧ Hid (∀ a, A2 = some a → w.heap.size ≤ a.block) ∧ Hid (Chg [] w wq)) (fun _ i _ => xs.length - (RowKit.intOf i).toNat)
 case atStart => exact ⟨0, none, 0, [], Nat.zero_le _, rfl, rfl, rfl, OwnK.none_ _, Lib.hid (by simpa using EvsR.nil _), Lib.hid (fun x hx => by simp at hx), Lib.hid (by simp), Chg.refl _ _⟩
 case round =>
  obtain ⟨k, A2, d2, us, hk, hyl, rfl, rfl, RO, RU, RA, RN, RC⟩ := hrel
  have i0 : (0 : Int) ≤ (k : Int) := by omega
  by_cases hlt : k < xs.length
  ·
   have i1 : (k : Int) < (xs.length : Int) := by omega
   have i3 : IntKind.i64.wrap ((k : Int) + 1) = (k : Int) + 1 := IntWalk.i64_in _ (by have := ZL.out; omega)
   obtain ⟨g, o, eA, _⟩ := RR.out.line (by omega)
   subst eA
   obtain ⟨x, e, ex, ee, rx⟩ := RE.out.at_ hlt
   obtain ⟨z0, z1, z2, z3, z4, z5, z6⟩ := evCells (RR.out.chg RC.out (by simp)) ex
   have RX := Lib.hid (rx.chg RC.out)
   have ET : Hid (es.take (k + 1) = es.take k ++ [e]) := Lib.hid (by rw [List.take_add_one, ee]; rfl)
   have HS := Lib.hid (CQ.out e (List.mem_of_getElem? ee))
   have YL := Lib.hid hyl
   clear ex ee rx hyl
   obtain ⟨w2, hw, hc, b0⟩ := news1 wr (.cells #[.int .i64 x.n, .int .i64 x.s, .string x.p, .int .i64 x.k, .int .i64 x.m, .slice x.A x.l x.c, .slice x.B x.bl x.bc] 30)
   have W2 := Lib.hid hw
   have HR := Lib.hid (RX.out.chg hc)
   have C := Lib.hid hc
   obtain ⟨g0, hg0⟩ : ∃ g, wr.heap.size = g := ⟨_, rfl⟩
   have SZ := Lib.hid hg0
   rw [hg0] at b0
   have B0 := Lib.hid b0
   have L0 := Lib.hid (lt_of_heap b0)
   have LZg0 : Hid (g0 ≤ g0) := Lib.hid (Nat.le_refl _)
   clear hw hc b0 hg0
   go_upto_region 6 with fail
   rw [← W2.out, SZ.out]
   clear z0 z1 z2 z3 z4 z5 z6 W2
   have z0 := cell_of B0.out 0
   have fz0 := free_of B0.out 0
   have z1 := cell_of B0.out 1
   have fz1 := free_of B0.out 1
   have z2 := cell_of B0.out 2
   have fz2 := free_of B0.out 2
   have z3 := cell_of B0.out 3
   have fz3 := free_of B0.out 3
   have z4 := cell_of B0.out 4
   have fz4 := free_of B0.out 4
   have z5 := cell_of B0.out 5
   have fz5 := free_of B0.out 5
   have z6 := cell_of B0.out 6
   have fz6 := free_of B0.out 6
   simp only [List.getElem?_toArray, List.getElem?_cons_succ, List.getElem?_cons_zero] at z0 z1 z2 z3 z4 z5 z6
   obtain ⟨wb, hwb, cb, bb⟩ := news1 w2 (.cells #[] 5)
   have WB := Lib.hid hwb
   have OB := Lib.hid (show OwnB wb (some ⟨w2.heap.size, 0, none⟩) 0 [] from .of (full := []) bb (Nat.zero_le _) (Nat.zero_le _) rfl rfl)
   have RB := Lib.hid (HR.out.A.chg cb (by simp))
   have CB := Lib.hid cb
   have BD : Hid (0 + x.l ≤ 140737488355327) := Lib.hid (by have := HS.out.1; rw [HR.out.l]; omega)
   have zb := cell_of (cb.at_ B0.out (by simp)) 5
   simp only [List.getElem?_toArray, List.getElem?_cons_succ, List.getElem?_cons_zero] at zb
   clear hwb cb bb
   go_upto_region 7 with (first | (at_builtin; refine wpList_app rfl (.tmp 16) (.tmp 19) rfl rfl OB.out rfl rfl RB.out BD.out ?_; intro A3 c3 w3 o3 g3 e3; have h3 : OwnB w3 A3 c3 e.b ∧ (∀ a, A3 = some a → w2.heap.size ≤ a.block) ∧ Chg [] w2 w3 := ⟨by simpa using o3, app_ownk (fun a ha => by cases ha; exact Nat.le_refl _) CB.out g3 e3⟩; have b3 := h3.2.2.at_ B0.out (by simp); have zz := cell_of b3 5; have ff := free_of b3 5; simp only [List.getElem?_toArray, List.getElem?_cons_succ, List.getElem?_cons_zero] at zz; clear b3; clear o3 g3 e3 WB OB RB CB BD zb; rw [Nat.zero_add]) | rw [← WB.out])
   clear z0 z1 z2 z3 z4 z5 z6 fz0 fz1 fz2 fz3 fz4 fz5 fz6
   replace B0 := Lib.hid (h3.2.2.at_ B0.out (by simp))
   have O3 := Lib.hid h3.1
   have N3 := Lib.hid h3.2.1
   have S2 := Lib.hid C.out.size
   have LB : Hid (w2.heap.size ≤ w3.heap.size) := Lib.hid h3.2.2.size
   replace C := Lib.hid (C.out.trans h3.2.2)
   have LT3 : Hid (∀ a, A3 = some a → a.block ≠ g0) := Lib.hid (fun a ha => by
    have q := N3.out a ha
    have r0 := L0.out
    omega)
   have LX3 : Hid (∀ a, A3 = some a → a.block < w3.heap.size) := Lib.hid (fun a ha => by
    obtain ⟨g, hg⟩ : ∃ g, a.block = g := ⟨_, rfl⟩
    rcases O3.out with ⟨q, _⟩ | ⟨g, full, q, hh, _⟩
    ·
     rw [q] at ha; cases ha
    ·
     rw [q] at ha; cases ha; exact lt_of_heap hh)
   clear h3
   have z0 := cell_of B0.out 0
   have fz0 := free_of B0.out 0
   have z1 := cell_of B0.out 1
   have fz1 := free_of B0.out 1
   have z2 := cell_of B0.out 2
   have fz2 := free_of B0.out 2
   have z3 := cell_of B0.out 3
   have fz3 := free_of B0.out 3
   have z4 := cell_of B0.out 4
   have fz4 := free_of B0.out 4
   have z5 := cell_of B0.out 5
   have fz5 := free_of B0.out 5
   have z6 := cell_of B0.out 6
   have fz6 := free_of B0.out 6
   simp only [List.getElem?_toArray, List.getElem?_cons_succ, List.getElem?_cons_zero] at z0 z1 z2 z3 z4 z5 z6
   clear zz ff; clear z0 z1 z2 z3 z4 z5 z6 fz0 fz1 fz2 fz3 fz4 fz5 fz6
   obtain ⟨p0, p2⟩ := box5 (.slice A3 x.l c3) B0.out LZg0.out C.out SZ.out
   generalize hW : (w3.setCell ⟨g0, 5, none⟩ (.slice A3 x.l c3)) = w4 at *
   have O4 := Lib.hid (O3.out.chg (S := [g0]) (hW ▸ (Chg.refl [g0] w3).put' 5 _) (fun a ha => by simp; exact LT3.out a ha))
   replace B0 := Lib.hid p0
   have LW : Hid (w3.heap.size ≤ w4.heap.size) := Lib.hid (by rw [← hW]; simp [World.setCell])
   replace C := Lib.hid p2
   have RBp := Lib.hid (RX.out.B.chg C.out (by simp))
   clear p0 p2 hW O3
   have z0 := cell_of B0.out 0
   have fz0 := free_of B0.out 0
   have z1 := cell_of B0.out 1
   have fz1 := free_of B0.out 1
   have z2 := cell_of B0.out 2
   have fz2 := free_of B0.out 2
   have z3 := cell_of B0.out 3
   have fz3 := free_of B0.out 3
   have z4 := cell_of B0.out 4
   have fz4 := free_of B0.out 4
   have z5 := cell_of B0.out 5
   have fz5 := free_of B0.out 5
   have z6 := cell_of B0.out 6
   have fz6 := free_of B0.out 6
   simp only [List.getElem?_toArray, List.getElem?_cons_succ, List.getElem?_cons_zero] at z0 z1 z2 z3 z4 z5 z6
   obtain ⟨wb, hwb, cb, bb⟩ := news1 w4 (.cells #[] 72)
   have WB := Lib.hid hwb
   have OB := Lib.hid (show OwnK spanTy wb (some ⟨w4.heap.size, 0, none⟩) 0 [] from OwnK.of (full := []) bb (Nat.zero_le _) (Nat.zero_le _) rfl rfl)
   have RB := Lib.hid (RBp.out.chg cb (by simp))
   have CB := Lib.hid cb
   have BD : Hid ((0 + x.bl) * 400 ≤ 140737488355327) := Lib.hid (by have := HS.out.2; rw [HR.out.bl]; omega)
   have zb := cell_of (cb.at_ B0.out (by simp)) 6
   simp only [List.getElem?_toArray, List.getElem?_cons_succ, List.getElem?_cons_zero] at zb
   clear hwb cb bb
   go_upto_region 8 with (first | (at_builtin; refine wpList_appK (R := spanTy) rfl (.tmp 23) (.tmp 25) rfl rfl (A := some ⟨w4.heap.size, 0, none⟩) (n := 0) (m := x.bl) (c := 0) (d := x.bc) (xs := []) (ys := e.q) OB.out rfl rfl RB.out BD.out ?_; intro A5 c5 w5 o5 g5 e5; have h5 : OwnK spanTy w5 A5 c5 e.q := o5; obtain ⟨hN5, hc5⟩ := app_ownk (w := w4) (fun a ha => by cases ha; exact Nat.le_refl _) CB.out g5 e5; have b5 := hc5.at_ B0.out (by simp); have zz := cell_of b5 6; have ff := free_of b5 6; simp only [List.getElem?_toArray, List.getElem?_cons_succ, List.getElem?_cons_zero] at zz; clear b5; clear o5 g5 e5 WB OB RB CB BD zb; rw [Nat.zero_add]) | rw [← WB.out])
   clear z0 z1 z2 z3 z4 z5 z6 fz0 fz1 fz2 fz3 fz4 fz5 fz6
   replace B0 := Lib.hid (hc5.at_ B0.out (by simp))
   replace O4 := Lib.hid (O4.out.chg hc5 (by simp))
   have P5 := Lib.hid h5
   have N5 : Hid (∀ a, A5 = some a → w3.heap.size ≤ a.block) := Lib.hid (fun a ha => Nat.le_trans LW.out (hN5 a ha))
   replace C := Lib.hid (C.out.trans hc5)
   have LT5 : Hid (∀ a, A5 = some a → a.block ≠ g0) := Lib.hid (fun a ha => by
    have q := N5.out a ha
    have r0 := L0.out
    have r2 := LB.out
    omega)
   clear h5 hN5 hc5 RBp
   have z0 := cell_of B0.out 0
   have fz0 := free_of B0.out 0
   have z1 := cell_of B0.out 1
   have fz1 := free_of B0.out 1
   have z2 := cell_of B0.out 2
   have fz2 := free_of B0.out 2
   have z3 := cell_of B0.out 3
   have fz3 := free_of B0.out 3
   have z4 := cell_of B0.out 4
   have fz4 := free_of B0.out 4
   have z5 := cell_of B0.out 5
   have fz5 := free_of B0.out 5
   have z6 := cell_of B0.out 6
   have fz6 := free_of B0.out 6
   simp only [List.getElem?_toArray, List.getElem?_cons_succ, List.getElem?_cons_zero] at z0 z1 z2 z3 z4 z5 z6
   clear zz ff; clear z0 z1 z2 z3 z4 z5 z6 fz0 fz1 fz2 fz3 fz4 fz5 fz6
   obtain ⟨p0, p2⟩ := box6 (.slice A5 x.bl c5) B0.out LZg0.out C.out SZ.out
   generalize hW : (w5.setCell ⟨g0, 6, none⟩ (.slice A5 x.bl c5)) = w6 at *
   have O6 := Lib.hid (O4.out.chg (S := [g0]) (hW ▸ (Chg.refl [g0] w5).put' 6 _) (fun a ha => by simp; exact LT3.out a ha))
   have P6 := Lib.hid (P5.out.chg (S := [g0]) (hW ▸ (Chg.refl [g0] w5).put' 6 _) (fun a ha => by simp; exact LT5.out a ha))
   replace B0 := Lib.hid p0
   replace C := Lib.hid p2
   clear p0 p2 hW O4 P5
   have z0 := cell_of B0.out 0
   have fz0 := free_of B0.out 0
   have z1 := cell_of B0.out 1
   have fz1 := free_of B0.out 1
   have z2 := cell_of B0.out 2
   have fz2 := free_of B0.out 2
   have z3 := cell_of B0.out 3
   have fz3 := free_of B0.out 3
   have z4 := cell_of B0.out 4
   have fz4 := free_of B0.out 4
   have z5 := cell_of B0.out 5
   have fz5 := free_of B0.out 5
   have z6 := cell_of B0.out 6
   have fz6 := free_of B0.out 6
   simp only [List.getElem?_toArray, List.getElem?_cons_succ, List.getElem?_cons_zero] at z0 z1 z2 z3 z4 z5 z6
   have KA : Hid (∀ a, A3 = some a → a.block < w6.heap.size ∧ wr.heap.size ≤ a.block) := Lib.hid (fun a ha => ⟨O6.out.lt a ha, by have := N3.out a ha; have := S2.out; omega⟩)
   have KB : Hid (∀ a, A5 = some a → a.block < w6.heap.size ∧ wr.heap.size ≤ a.block) := Lib.hid (fun a ha => ⟨P6.out.lt a ha, by have := N5.out a ha; have := S2.out; have := LB.out; omega⟩)
   have KC : Hid (x.bl ≤ c5 ∧ c5 ≤ maxLen) := Lib.hid (by have q := P6.out.cap; have := RX.out.bl; exact ⟨by omega, q.2⟩)
   have XR : Hid (EvR w6 ⟨x.n, x.s, x.p, x.k, x.m, A3, x.l, c3, A5, x.bl, c5⟩ e) := Lib.hid ⟨RX.out.n, RX.out.s, RX.out.p, RX.out.k, RX.out.m, RX.out.l, RX.out.bl, by show Bs w6 A3 x.l e.b; rw [RX.out.l]; exact O6.out.reads, by show RdK spanTy w6 A5 x.bl e.q; rw [RX.out.bl]; exact P6.out.reads⟩
   have LA1 := Lib.hid RO.out.lt
   replace RO := Lib.hid (RO.out.chg C.out (by simp))
   replace RU := Lib.hid (RU.out.chg C.out)
   have S6 := Lib.hid C.out.size
   replace RC := Lib.hid (RC.out.trans C.out)
   clear C HR N3 N5 LT3 LT5 LX3 LB LW S2 O6 P6 B0 HS RX
   obtain ⟨w8, hw, hc, b3⟩ := news1 w6 (.cells #[.int .i64 x.n, .int .i64 x.s, .string x.p, .int .i64 x.k, .int .i64 x.m, .slice A3 x.l c3, .slice A5 x.bl c5] 30)
   have W3 := Lib.hid hw
   have R3 := Lib.hid (rd_oneEc (X := ⟨x.n, x.s, x.p, x.k, x.m, A3, x.l, c3, A5, x.bl, c5⟩) b3)
   obtain ⟨X, hX⟩ : ∃ X : EvT, X = ⟨x.n, x.s, x.p, x.k, x.m, A3, x.l, c3, A5, x.bl, c5⟩ := ⟨_, rfl⟩
   have fX : X.A = A3 ∧ X.B = A5 ∧ X.bl = x.bl ∧ X.bc = c5 := by rw [hX]; exact ⟨rfl, rfl, rfl, rfl⟩
   rw [← hX] at R3 XR
   have FX := Lib.hid fX
   replace RO := Lib.hid (RO.out.chg hc (by simp))
   replace RU := Lib.hid (RU.out.chg hc)
   replace XR := Lib.hid (XR.out.chg hc)
   have S3 := Lib.hid hc.size
   replace RC := Lib.hid (RC.out.trans hc)
   clear hw hc b3 hX fX
   have N4 : Hid ((us.length + 1) * 400 ≤ 140737488355327) := Lib.hid (by have := YL.out; have := ZL.out; omega)
   go_wp2_with (at_builtin; rw [← W3.out]; refine wpList_appK (R := evTy) rfl (.tmp 28) (.tmp 30) rfl rfl (A := A2) (n := us.length) (m := 1) (c := d2) (d := 1) (xs := us) (ys := [X]) RO.out rfl rfl R3.out N4.out ?_; intro A7 c7 w7 o7 g7 e7; have O7 := Lib.hid o7; have F7 := Lib.hid (fresh_appE RN.out RC.out g7 e7); have G7 := Lib.hid g7; have E7 := Lib.hid e7; clear o7 g7 e7)
   clear z0 z1 z2 z3 z4 z5 z6 fz0 fz1 fz2 fz3 fz4 fz5 fz6
   have CG : Hid (Chg (blkOf A2) w8 w7) := Lib.hid ((Chg.refl (blkOf A2) w8).grown G7.out (fun i hi => by
    cases A2 with
    | none => simp at hi
    | some a => simp at hi; subst hi; exact .inl (mem_blkOf rfl)))
   have RE7 : Hid (EvsR w7 (us ++ [X]) (es.take (k + 1))) := Lib.hid (by
    rw [ET.out]
    refine EvsR.snoc (RU.out.chgS CG.out (fun y hy => ⟨fun a ha q => ?_, fun a ha q => ?_⟩)) (XR.out.chgS CG.out (fun a ha q => ?_) (fun a ha q => ?_))
    ·
     obtain ⟨b, hb, e⟩ := of_blkOf q; exact ((RA.out y hy).1 a ha).2 b hb e.symm
    ·
     obtain ⟨b, hb, e⟩ := of_blkOf q; exact ((RA.out y hy).2.1 a ha).2 b hb e.symm
    ·
     rw [FX.out.1] at ha; obtain ⟨b, hb, e⟩ := of_blkOf q; have := LA1.out b hb; have := (KA.out a ha).2; omega
    ·
     rw [FX.out.2.1] at ha; obtain ⟨b, hb, e⟩ := of_blkOf q; have := LA1.out b hb; have := (KB.out a ha).2; omega)
   have RA7 : Hid (ApartE w7 A7 (us ++ [X])) := Lib.hid (fun y hy => by
    have s7 := CG.out.size
    have s3 := S3.out
    have s6 := S6.out
    have lo : ∀ a : Addr, a.block < w8.heap.size → (∀ b, A2 = some b → a.block ≠ b.block) → a.block < w7.heap.size ∧ ∀ b, A7 = some b → a.block ≠ b.block := fun a h1 h2 => ⟨by omega, fun b hb => by
     rcases E7.out with q | q
     ·
      rw [q] at hb; exact h2 b hb
     ·
      rw [q] at hb; cases hb; exact Nat.ne_of_lt h1⟩
    rcases List.mem_append.1 hy with r | r
    ·
     exact ⟨fun a ha => lo a (by have := ((RA.out y r).1 a ha).1; omega) ((RA.out y r).1 a ha).2, fun a ha => lo a (by have := ((RA.out y r).2.1 a ha).1; omega) ((RA.out y r).2.1 a ha).2, (RA.out y r).2.2⟩
    ·
     simp at r
     subst r
     exact ⟨fun a ha => by rw [FX.out.1] at ha; exact lo a (by have := (KA.out a ha).1; omega) (fun b hb => by have := LA1.out b hb; have := (KA.out a ha).2; omega), fun a ha => by rw [FX.out.2.1] at ha; exact lo a (by have := (KB.out a ha).1; omega) (fun b hb => by have := LA1.out b hb; have := (KB.out a ha).2; omega), by rw [FX.out.2.2.1, FX.out.2.2.2]; exact KC.out⟩)
   clear CG G7 E7 RO RU RA; go_wp2; go_round
   case rel => exact ⟨k + 1, A7, c7, us ++ [X], by omega, by simp [YL.out], by go_num, by simp, O7, RE7, RA7, Lib.hid F7.out.1, F7.out.2⟩
   case measure => simp [RowKit.intOf]; omega
  ·
   obtain rfl : k = xs.length := by omega
   have i1 : ¬ (xs.length : Int) < (xs.length : Int) := by omega
   have ET : es.take xs.length = es := by rw [RE.out.1]; exact List.take_length
   rw [ET] at RU
   have YL := Lib.hid hyl
   clear hyl ET; go_wp2; go_ret
   exact ⟨A2, d2, us, rfl, RO.out.reads, RU.out, RC.out⟩
end
section
open Go.RowKit Go.Lib


def cmpS (x : Sp) (n s : Int) : Int := if x.1 < n ∨ x.1 = n ∧ x.2.2 < s then -1 else if n < x.1 ∨ s < x.2.1 then 1 else 0
theorem cmp_zero {x : Sp} {n s : Int} : cmpS x n s = 0 ↔ InS x n s := by
 unfold cmpS InS
 split
 ·
  constructor
  ·
   intro h; exact absurd h (by decide)
  ·
   intro h; omega
 ·
  split
  ·
   constructor
   ·
    intro h; exact absurd h (by decide)
   ·
    intro h; omega
  ·
   constructor
   ·
    intro _; omega
   ·
    intro _; rfl
theorem cmp_neg {x : Sp} {n s : Int} : cmpS x n s < 0 ↔ x.1 < n ∨ x.1 = n ∧ x.2.2 < s := by
 unfold cmpS
 split
 ·
  rename_i h; exact ⟨fun _ => h, fun _ => by decide⟩
 ·
  rename_i h
  split <;> exact ⟨fun q => absurd q (by decide), fun q => absurd q h⟩
theorem norm_at {l : List Sp} (h : Norm l) {p q : Nat} {x y : Sp} (hx : l[p]? = some x) (hy : l[q]? = some y) (hl : p < q) : Ap x y ∧ SpOk x ∧ SpOk y := by
 have hp := List.getElem?_eq_some_iff.1 hx
 have hq := List.getElem?_eq_some_iff.1 hy
 obtain ⟨l1, e1⟩ := hp
 obtain ⟨l2, e2⟩ := hq
 refine ⟨?_, h.1 x (List.mem_of_getElem? hx), h.1 y (List.mem_of_getElem? hy)⟩
 have := List.pairwise_iff_getElem.1 h.2 p q l1 l2 hl
 rw [e1, e2] at this
 exact this
def LoS (xs : List Sp) (n s : Int) (i : Nat) : Prop := ∀ p x, xs[p]? = some x → p < i → cmpS x n s < 0
def HiS (xs : List Sp) (n s : Int) (j : Nat) : Prop := ∀ p x, xs[p]? = some x → j ≤ p → ¬ cmpS x n s < 0
theorem lo_next {xs : List Sp} {n s : Int} (hn : Norm xs) {h : Nat} {x : Sp} (hx : xs[h]? = some x) (hc : cmpS x n s < 0) : LoS xs n s (h + 1) := by
 intro p y hy hp
 by_cases e : p = h
 ·
  subst e; rw [hx] at hy; cases hy; exact hc
 ·
  obtain ⟨a, o1, o2⟩ := norm_at hn hy hx (by omega)
  rw [cmp_neg] at hc ⊢
  unfold Ap SpOk at *
  omega
theorem hi_next {xs : List Sp} {n s : Int} (hn : Norm xs) {h : Nat} {x : Sp} (hx : xs[h]? = some x) (hc : ¬ cmpS x n s < 0) : HiS xs n s h := by
 intro p y hy hp
 by_cases e : p = h
 ·
  subst e; rw [hx] at hy; cases hy; exact hc
 ·
  obtain ⟨a, o1, o2⟩ := norm_at hn hx hy (by omega)
  rw [cmp_neg] at hc ⊢
  unfold Ap SpOk at *
  omega
theorem found_yes {xs : List Sp} {n s : Int} {i : Nat} {x : Sp} (hx : xs[i]? = some x) (hc : cmpS x n s = 0) : Mem xs n s := ⟨x, List.mem_of_getElem? hx, cmp_zero.1 hc⟩
theorem found_no {xs : List Sp} {n s : Int} (hn : Norm xs) {i : Nat} (hl : LoS xs n s i) (hh : HiS xs n s i) (hx : ∀ x, xs[i]? = some x → cmpS x n s ≠ 0) : ¬ Mem xs n s := by
 rintro ⟨y, hy, hi⟩
 obtain ⟨q, hq, rfl⟩ := List.getElem_of_mem hy
 have hz : cmpS xs[q] n s = 0 := cmp_zero.2 hi
 have hqe := List.getElem?_eq_getElem hq
 rcases Nat.lt_trichotomy q i with h | h | h
 ·
  have := hl q _ hqe h; omega
 ·
  subst h; exact hx _ hqe hz
 ·
  have hie := List.getElem?_eq_getElem (show i < xs.length by omega)
  obtain ⟨a, o1, o2⟩ := norm_at hn hie hqe h
  have := hh i _ hie (Nat.le_refl _)
  rw [cmp_neg] at this
  unfold Ap SpOk InS at *
  omega
set_option maxRecDepth 100000 in
set_option maxHeartbeats 4000000 in
theorem has1_any (w : World) (x : Sp) (n s : Int) : Calls Tryz.prog 128 #[.agg #[.int .i64 x.1, .int .i64 x.2.1, .int .i64 x.2.2], .agg #[.int .i64 n, .int .i64 s]] w fun e w' => e = .returned (.int .i64 (cmpS x n s)) ∧ Chg [] w w' := by
 obtain ⟨w1, hw1, c1, b0, b1⟩ := news2 w (.cells #[.int .i64 x.1, .int .i64 x.2.1, .int .i64 x.2.2] 72) (.cells #[.int .i64 n, .int .i64 s] 24)
 have W1 := Lib.hid hw1
 have C1 := Lib.hid c1
 have y0 := cell_of b0 0
 have y1 := cell_of b0 1
 have y2 := cell_of b0 2
 have z0 := cell_of b1 0
 have z1 := cell_of b1 1
 simp only [List.getElem?_toArray, List.getElem?_cons_succ, List.getElem?_cons_zero] at y0 y1 y2 z0 z1
 clear hw1 c1 b0 b1
 have fin : ∀ v, cmpS x n s = v → Calls Tryz.prog 128 #[.agg #[.int .i64 x.1, .int .i64 x.2.1, .int .i64 x.2.2], .agg #[.int .i64 n, .int .i64 s]] w (fun e w' => e = .returned (.int .i64 v) ∧ Chg [] w w') → Calls Tryz.prog 128 #[.agg #[.int .i64 x.1, .int .i64 x.2.1, .int .i64 x.2.2], .agg #[.int .i64 n, .int .i64 s]] w fun e w' => e = .returned (.int .i64 (cmpS x n s)) ∧ Chg [] w w' := fun v hv h => hv ▸ h
 obtain ⟨x1, x2, x3⟩ := x
 dsimp only at *
 rcases Int.lt_trichotomy x1 n with h | h | h
 ·
  have f1 : x1 < n := h
  refine fin (-1) (by unfold cmpS; exact if_pos (.inl h)) ?_
  clear fin
  go_enter Tryz.func128, Tryz.ntmps128
  go_upto_region 1 with fail
  rw [← W1.out]
  generalize w.heap.size = g0 at *
  go_wp2; go_ret
  exact ⟨rfl, C1.out⟩
 ·
  subst h
  have f0 : ¬ x1 < x1 := by omega
  have f3 : ((x1 == x1) : Bool) = true := by simp
  by_cases h2 : x3 < s
  ·
   skip
   refine fin (-1) (by unfold cmpS; exact if_pos (.inr ⟨rfl, h2⟩)) ?_
   clear fin
   go_enter Tryz.func128, Tryz.ntmps128
   go_upto_region 1 with fail
   rw [← W1.out]
   generalize w.heap.size = g0 at *
   go_wp2; go_ret
   exact ⟨rfl, C1.out⟩
  by_cases h3 : s < x2
  ·
   skip
   refine fin (1) (by unfold cmpS; rw [if_neg (by simp only; omega)]; exact if_pos (.inr h3)) ?_
   clear fin
   go_enter Tryz.func128, Tryz.ntmps128
   go_upto_region 1 with fail
   rw [← W1.out]
   generalize w.heap.size = g0 at *
   go_wp2; go_ret
   exact ⟨rfl, C1.out⟩
  refine fin (0) (by unfold cmpS; rw [if_neg (by simp only; omega)]; exact if_neg (by simp only; omega)) ?_
  clear fin
  go_enter Tryz.func128, Tryz.ntmps128
  go_upto_region 1 with fail
  rw [← W1.out]
  generalize w.heap.size = g0 at *
  go_wp2; go_ret
  exact ⟨rfl, C1.out⟩
 ·
  have f1 : ¬ x1 < n := by omega
  have f3 : ((x1 == n) : Bool) = false := by simp; omega
  refine fin (1) (by unfold cmpS; rw [if_neg (by simp only; omega)]; exact if_pos (.inl h)) ?_
  clear fin
  go_enter Tryz.func128, Tryz.ntmps128
  go_upto_region 1 with fail
  rw [← W1.out]
  generalize w.heap.size = g0 at *
  go_wp2; go_ret
  exact ⟨rfl, C1.out⟩
end
section
open Go.RowKit Go.Lib


set_option maxRecDepth 100000 in
set_option maxHeartbeats 8000000 in
theorem binspan_any (w : World) (A : Option Addr) (c : Nat) (xs : List Sp) (n s : Int) (h : RdK spanTy w A xs.length xs) (hn : Norm xs) (hl : xs.length ≤ 4000) :
  Calls Tryz.prog 127 #[.slice A xs.length c, .agg #[.int .i64 n, .int .i64 s], .func (.func 128) #[] #[]] w fun e w' => ∃ i : Int, e = .returned (.tuple #[.int .i64 i, .bool (decide (Mem xs n s))]) ∧ Chg [] w w' := by
 have HX := Lib.hid h
 have HNM := Lib.hid hn
 have HL := Lib.hid hl
 clear h hn hl
 obtain ⟨w1, hw1, c1, b1⟩ := news1 w (.cells #[.int .i64 n, .int .i64 s] 24)
 have W1 := Lib.hid hw1
 have C1 := Lib.hid c1
 have B1 := Lib.hid b1
 clear hw1 c1 b1
 go_enter Tryz.func127, Tryz.ntmps127
 go_upto_region 2 with fail
 rw [← W1.out]
 generalize w.heap.size = g0 at *
 clear W1; go_wp2
 go_loopw [9, 10] (fun v9 v10 wr => ∃ (i j : Nat), i ≤ j ∧ j ≤ xs.length ∧ v9 = .int .i64 (i : Int) ∧ v10 = .int .i64 (j : Int) ∧ Hid (LoS xs n s i ∧ HiS xs n s j) ∧ Hid (Chg [] w1 wr)) (fun v9 v10 _ => (RowKit.intOf v10).toNat - (RowKit.intOf v9).toNat)
 case atStart => exact ⟨0, xs.length, Nat.zero_le _, Nat.le_refl _, rfl, rfl, Lib.hid ⟨fun p x _ h => absurd h (by omega), fun p x hx h => absurd ((List.getElem?_eq_some_iff.1 hx).1) (by omega)⟩, Chg.refl _ _⟩
 case round =>
  obtain ⟨i, j, hij, hj, rfl, rfl, HI, HC⟩ := hrel
  have i0 : (0 : Int) ≤ (i : Int) := by omega
  have hl := HL.out
  have i1 : IntKind.i64.wrap ((i : Int) + (j : Int)) = ((i + j : Nat) : Int) := by rw [IntWalk.i64_in _ (by omega)]; omega
  by_cases hlt : i < j
  ·
   have i2 : (i : Int) < (j : Int) := by omega
   go_upto_region 5 with fail
   obtain ⟨k, hk⟩ : ∃ k : Nat, k = (i + j) / 2 := ⟨_, rfl⟩
   have e1 : ((i : Int) + (j : Int)) / 2 = (k : Int) := by omega
   rw [e1]
   have hk1 : i ≤ k ∧ k < j := by omega
   clear hk e1 i1 i2
   obtain ⟨x, hx⟩ : ∃ x, xs[k]? = some x := ⟨_, List.getElem?_eq_getElem (by omega)⟩
   have R4 := (HX.out.chg C1.out (by simp)).chg HC.out (by simp)
   obtain ⟨g, o, eA, _⟩ := R4.line (by omega)
   subst eA
   obtain ⟨q0, q1, q2⟩ := spanCells R4 hx
   have b4 := HC.out.at_ B1.out (by simp)
   have d0 := cell_of b4 0
   have d1 := cell_of b4 1
   simp only [List.getElem?_toArray, List.getElem?_cons_succ, List.getElem?_cons_zero] at d0 d1
   have k0 : (0 : Int) ≤ (k : Int) := by omega
   have k1 : (k : Int) < (xs.length : Int) := by omega
   have HX5 := Lib.hid hx
   clear R4 b4 hx
   refine wp_region_held_drew (S := fun w' => w'.cell? ⟨g, o + k * 3, none⟩ = some (.int .i64 x.1) ∧ w'.cell? ⟨g, o + k * 3 + 1, none⟩ = some (.int .i64 x.2.1) ∧ w'.cell? ⟨g, o + k * 3 + 2, none⟩ = some (.int .i64 x.2.2) ∧ w'.cell? ⟨g0, 0, none⟩ = some (.int .i64 n) ∧ w'.cell? ⟨g0, 1, none⟩ = some (.int .i64 s)) (by kernel_rfl) ⟨q0, q1, q2, d0, d1⟩ (fun hHeld => ?_)
   have CD := Lib.hid (Chg.refl [] wr).drew
   have HH := Lib.hid (fun (w' : World) (hc : Chg [] wr.drew w') => (⟨(CD.out.trans hc).cell q0 (by simp), (CD.out.trans hc).cell q1 (by simp), (CD.out.trans hc).cell q2 (by simp), (CD.out.trans hc).cell d0 (by simp), (CD.out.trans hc).cell d1 (by simp)⟩ : w'.cell? ⟨g, o + k * 3, none⟩ = some (.int .i64 x.1) ∧ w'.cell? ⟨g, o + k * 3 + 1, none⟩ = some (.int .i64 x.2.1) ∧ w'.cell? ⟨g, o + k * 3 + 2, none⟩ = some (.int .i64 x.2.2) ∧ w'.cell? ⟨g0, 0, none⟩ = some (.int .i64 n) ∧ w'.cell? ⟨g0, 1, none⟩ = some (.int .i64 s)))
   clear q0 q1 q2 d0 d1
   generalize wr.drew = wd at *
   refine sy 0 24 rfl rfl ?_; try simp only [Act.put, sA, s0, s1]
   refine sy 1 25 rfl rfl ?_; try simp only [Act.put, sA, s0, s1]
   refine sy 2 26 rfl rfl ?_; try simp only [Act.put, sA, s0, s1]
   refine sy 3 27 rfl rfl ?_; try simp only [Act.put, sA, s0, s1]
   refine sy 4 28 rfl rfl ?_ (hy := by (intro w hSw; (try dsimp only at hSw); obtain ⟨q0, q1, q2, q3, q4⟩ := hSw; go_simp; try with_reducible rfl))
   try simp only [Act.put, sA, s0, s1]
   refine sy 5 29 rfl rfl ?_ (hy := by (intro w hSw; (try dsimp only at hSw); obtain ⟨q0, q1, q2, q3, q4⟩ := hSw; go_simp; try with_reducible rfl))
   try simp only [Act.put, sA, s0, s1]
   refine wpAnyH_ready (rs := [6]) (by kernel_rfl) (by simp) ?_; refine AllReadyH.cons rfl (fun K hK => ?_) AllReadyH.nil; replace hK := Lib.hid hK; go_simp
   refine (has1_any wd x n s).mono ?_
   rintro r w6 ⟨rfl, h6⟩
   have C6 := Lib.hid h6
   clear h6 hHeld
   refine hK.out _ _ (HH.out w6 C6.out) (fun hHeld => ?_)
   clear hK K; try simp only [Act.put, sA, s0, s1]
   refine sy 7 31 rfl rfl ?_; try simp only [Act.put, sA, s0, s1]
   refine wpAnyH_done (by kernel_rfl) ?_ _; clear hHeld HH
   have CE := Lib.hid (HC.out.trans (CD.out.trans C6.out))
   by_cases hneg : cmpS x n s < 0
   ·
    have LO := Lib.hid (lo_next HNM.out HX5.out hneg)
    have dn1 : decide (cmpS x n s < 0) = true := decide_eq_true hneg
    have w1' : IntKind.i64.wrap ((k : Int) + 1) = (k : Int) + 1 := IntWalk.i64_in _ (by omega)
    go_wp2; go_round
    case rel => exact ⟨k + 1, j, by omega, hj, by go_num, rfl, Lib.hid ⟨LO.out, HI.out.2⟩, CE.out⟩
    case measure => simp [RowKit.intOf]; omega
   ·
    have HIN := Lib.hid (hi_next HNM.out HX5.out hneg)
    have dn1 : decide (cmpS x n s < 0) = false := decide_eq_false hneg
    go_wp2; go_round
    case rel => exact ⟨i, k, by omega, by omega, rfl, rfl, Lib.hid ⟨HI.out.1, HIN.out⟩, CE.out⟩
    case measure => simp [RowKit.intOf]; omega
  ·
   obtain rfl : i = j := by omega
   have i2 : ¬ (i : Int) < (i : Int) := by omega
   by_cases hin : i < xs.length
   ·
    have k1 : (i : Int) < (xs.length : Int) := by omega
    have k2 : decide ((i : Int) < (xs.length : Int)) = true := by simp; omega
    have k3 : decide (i < xs.length) = true := by simp; omega
    obtain ⟨x, hx⟩ : ∃ x, xs[i]? = some x := ⟨_, List.getElem?_eq_getElem hin⟩
    have R4 := (HX.out.chg C1.out (by simp)).chg HC.out (by simp)
    obtain ⟨g, o, eA, _⟩ := R4.line (by omega)
    subst eA
    obtain ⟨q0, q1, q2⟩ := spanCells R4 hx
    have b4 := HC.out.at_ B1.out (by simp)
    have d0 := cell_of b4 0
    have d1 := cell_of b4 1
    simp only [List.getElem?_toArray, List.getElem?_cons_succ, List.getElem?_cons_zero] at d0 d1
    have ANS : Hid (decide (Mem xs n s) = decide (cmpS x n s = 0)) := Lib.hid (by
     by_cases hz : cmpS x n s = 0
     ·
      rw [decide_eq_true (found_yes hx hz), decide_eq_true hz]
     ·
      rw [decide_eq_false (found_no HNM.out HI.out.1 HI.out.2 (fun y hy => by rw [hx] at hy; cases hy; exact hz)), decide_eq_false hz])
    clear R4 b4 hx
    go_upto_region 8 with fail
    refine wp_region_held_drew (S := fun w' => w'.cell? ⟨g, o + i * 3, none⟩ = some (.int .i64 x.1) ∧ w'.cell? ⟨g, o + i * 3 + 1, none⟩ = some (.int .i64 x.2.1) ∧ w'.cell? ⟨g, o + i * 3 + 2, none⟩ = some (.int .i64 x.2.2) ∧ w'.cell? ⟨g0, 0, none⟩ = some (.int .i64 n) ∧ w'.cell? ⟨g0, 1, none⟩ = some (.int .i64 s)) (by kernel_rfl) ⟨q0, q1, q2, d0, d1⟩ (fun hHeld => ?_)
    have CD := Lib.hid (Chg.refl [] wr).drew
    have HH := Lib.hid (fun (w' : World) (hc : Chg [] wr.drew w') => (⟨(CD.out.trans hc).cell q0 (by simp), (CD.out.trans hc).cell q1 (by simp), (CD.out.trans hc).cell q2 (by simp), (CD.out.trans hc).cell d0 (by simp), (CD.out.trans hc).cell d1 (by simp)⟩ : w'.cell? ⟨g, o + i * 3, none⟩ = some (.int .i64 x.1) ∧ w'.cell? ⟨g, o + i * 3 + 1, none⟩ = some (.int .i64 x.2.1) ∧ w'.cell? ⟨g, o + i * 3 + 2, none⟩ = some (.int .i64 x.2.2) ∧ w'.cell? ⟨g0, 0, none⟩ = some (.int .i64 n) ∧ w'.cell? ⟨g0, 1, none⟩ = some (.int .i64 s)))
    clear q0 q1 q2 d0 d1 i2
    generalize wr.drew = wd at *
    refine sy 0 35 rfl rfl ?_; try simp only [Act.put, sA, s0, s1]
    refine sy 1 36 rfl rfl ?_; try simp only [Act.put, sA, s0, s1]
    refine sy 2 37 rfl rfl ?_; try simp only [Act.put, sA, s0, s1]
    refine sy 3 38 rfl rfl ?_; try simp only [Act.put, sA, s0, s1]
    refine sy 4 39 rfl rfl ?_; try simp only [Act.put, sA, s0, s1]
    refine sy 5 40 rfl rfl ?_; try simp only [Act.put, sA, s0, s1]
    refine sy 6 41 rfl rfl ?_; try simp only [Act.put, sA, s0, s1]
    refine sy 7 42 rfl rfl ?_; try simp only [Act.put, sA, s0, s1]
    refine sy 8 43 rfl rfl ?_; try simp only [Act.put, sA, s0, s1]
    refine sy 9 44 rfl rfl ?_ (hy := by (intro w hSw; (try dsimp only at hSw); obtain ⟨q0, q1, q2, q3, q4⟩ := hSw; go_simp; try with_reducible rfl))
    try simp only [Act.put, sA, s0, s1]
    refine sy 10 45 rfl rfl ?_ (hy := by (intro w hSw; (try dsimp only at hSw); obtain ⟨q0, q1, q2, q3, q4⟩ := hSw; go_simp; try with_reducible rfl))
    try simp only [Act.put, sA, s0, s1]
    refine wpAnyH_ready (rs := [11]) (by kernel_rfl) (by simp) ?_; refine AllReadyH.cons rfl (fun K hK => ?_) AllReadyH.nil; replace hK := Lib.hid hK; go_simp
    refine (has1_any wd x n s).mono ?_
    rintro r w6 ⟨rfl, h6⟩
    have C6 := Lib.hid h6
    clear h6 hHeld
    refine hK.out _ _ (HH.out w6 C6.out) (fun hHeld => ?_)
    clear hK K; try simp only [Act.put, sA, s0, s1]
    refine sy 12 47 rfl rfl ?_; try simp only [Act.put, sA, s0, s1]
    refine sy 13 48 rfl rfl ?_; try simp only [Act.put, sA, s0, s1]
    refine sy 14 6 rfl rfl ?_; try simp only [Act.put, sA, s0, s1]
    refine sy 15 7 rfl rfl ?_; try simp only [Act.put, sA, s0, s1]
    refine wpAnyH_done (by kernel_rfl) ?_ _; clear hHeld HH
    have CE := Lib.hid (C1.out.trans (HC.out.trans (CD.out.trans C6.out)))
    by_cases hz : cmpS x n s = 0
    ·
     have AN : decide (Mem xs n s) = true := by rw [ANS.out, decide_eq_true hz]
     have dz : ((cmpS x n s == 0) : Bool) = true := by simpa using hz
     clear ANS hz; go_wp2; go_ret2
     (first | exact ⟨(i : Int), by show Ending.returned (.tuple #[.int .i64 (i : Int), .bool (cmpS x n s == 0)]) = _; rw [dz, AN], CE.out⟩ | exact ⟨⟨(i : Int), by show Ending.returned (.tuple #[.int .i64 (i : Int), .bool false]) = _; first | rfl | rw [AN]⟩, CE.out⟩)
    ·
     have AN : decide (Mem xs n s) = false := by rw [ANS.out, decide_eq_false hz]
     have dz : ((cmpS x n s == 0) : Bool) = false := by simpa using hz
     clear ANS hz; go_wp2; go_ret2
     (first | exact ⟨(i : Int), by show Ending.returned (.tuple #[.int .i64 (i : Int), .bool (cmpS x n s == 0)]) = _; rw [dz, AN], CE.out⟩ | exact ⟨⟨(i : Int), by show Ending.returned (.tuple #[.int .i64 (i : Int), .bool false]) = _; first | rfl | rw [AN]⟩, CE.out⟩)
   ·
    have k1 : ¬ (i : Int) < (xs.length : Int) := by omega
    have k2 : decide ((i : Int) < (xs.length : Int)) = false := by simp; omega
    have k3 : decide (i < xs.length) = false := by simp; omega
    have ANS : Hid (decide (Mem xs n s) = false) := Lib.hid (decide_eq_false (found_no HNM.out HI.out.1 HI.out.2 (fun y hy => absurd ((List.getElem?_eq_some_iff.1 hy).1) hin)))
    go_upto_region 8 with fail
    refine wp_region_held_drew (S := fun _ => True) (by kernel_rfl) trivial (fun hHeld => ?_)
    have CD := Lib.hid (Chg.refl [] wr).drew
    generalize wr.drew = wd at *
    clear i2
    refine sy 0 35 rfl rfl ?_ (hS := trivial)
    try simp only [Act.put, sA, s0, s1]
    refine sy 1 36 rfl rfl ?_ (hS := trivial)
    try simp only [Act.put, sA, s0, s1]
    refine sy 2 37 rfl rfl ?_ (hS := trivial)
    try simp only [Act.put, sA, s0, s1]
    refine sy 3 38 rfl rfl ?_ (hS := trivial)
    try simp only [Act.put, sA, s0, s1]
    refine sy 4 39 rfl rfl ?_ (hS := trivial)
    try simp only [Act.put, sA, s0, s1]
    refine sn 5 40 rfl rfl ?_ (hS := trivial)
    try simp only [Act.put, sA, s0, s1]
    refine sn 6 41 rfl rfl ?_ (hS := trivial)
    try simp only [Act.put, sA, s0, s1]
    refine sn 7 42 rfl rfl ?_ (hS := trivial)
    try simp only [Act.put, sA, s0, s1]
    refine sn 8 43 rfl rfl ?_ (hS := trivial)
    try simp only [Act.put, sA, s0, s1]
    refine sn 9 44 rfl rfl ?_ (hS := trivial)
    try simp only [Act.put, sA, s0, s1]
    refine sn 10 45 rfl rfl ?_ (hS := trivial)
    try simp only [Act.put, sA, s0, s1]
    refine sn 11 46 rfl rfl ?_ (hS := trivial)
    try simp only [Act.put, sA, s0, s1]
    refine sn 12 47 rfl rfl ?_ (hS := trivial)
    try simp only [Act.put, sA, s0, s1]
    refine sy 13 48 rfl rfl ?_ (hS := trivial)
    try simp only [Act.put, sA, s0, s1]
    refine sy 14 6 rfl rfl ?_ (hS := trivial)
    try simp only [Act.put, sA, s0, s1]
    refine sy 15 7 rfl rfl ?_ (hS := trivial)
    try simp only [Act.put, sA, s0, s1]
    refine wpAnyH_done (by kernel_rfl) ?_ _; clear hHeld
    have CE := Lib.hid (C1.out.trans (HC.out.trans CD.out))
    have AN := ANS.out
    go_wp2; go_ret2
    (first | exact ⟨(i : Int), by show Ending.returned (.tuple #[.int .i64 (i : Int), .bool (cmpS x n s == 0)]) = _; rw [dz, AN], CE.out⟩ | exact ⟨⟨(i : Int), by show Ending.returned (.tuple #[.int .i64 (i : Int), .bool false]) = _; first | rfl | rw [AN]⟩, CE.out⟩)
end
section
open Go.RowKit Go.Lib


def hasE (xs : List Sp) (n s : Int) : Bool := decide (chkS xs = 0) && decide (Mem xs n s)
set_option maxRecDepth 100000 in
set_option maxHeartbeats 4000000 in
theorem has_any (w : World) (A : Option Addr) (c : Nat) (xs : List Sp) (n s : Int) (h : RdK spanTy w A xs.length xs) (hn : xs.length ≤ 140737488351232) :
  Calls Tryz.prog 65 #[.slice A xs.length c, .agg #[.int .i64 n, .int .i64 s]] w fun e w' => e = .returned (.bool (hasE xs n s)) ∧ Chg [] w w' := by
 obtain ⟨w0, hw0, c0, b0⟩ := news1 w (.cells #[.int .i64 n, .int .i64 s] 24)
 have W0 := Lib.hid hw0
 have C0 := Lib.hid c0
 have B0 := Lib.hid b0
 have H := Lib.hid (h.chg c0 (by simp))
 have HN := Lib.hid hn
 clear hw0 c0 b0 h hn
 rcases chk_two xs with e1 | e1
 ·
  have eH : hasE xs n s = decide (Mem xs n s) := by unfold hasE; rw [decide_eq_true e1]; rfl
  rw [eH]
  have WF := Lib.hid (wf_of_chk e1)
  clear eH
  go_enter Tryz.func65, Tryz.ntmps65
  go_wp2_with fail
  rw [← W0.out]
  generalize w.heap.size = g0 at *
  refine (pacheck_any w0 A _ c xs H.out HN.out).mono ?_
  rintro e w1 ⟨rfl, h1⟩
  rw [e1]
  have C1 := Lib.hid h1
  have b1 := h1.at_ B0.out (by simp)
  have z0 := cell_of b1 0
  have z1 := cell_of b1 1
  simp only [List.getElem?_toArray, List.getElem?_cons_succ, List.getElem?_cons_zero] at z0 z1
  clear h1 b1; go_wp2_with fail
  refine (binspan_any w1 A c xs n s (H.out.chg C1.out (by simp)) WF.out.1.1 WF.out.2).mono ?_
  rintro e w2 ⟨i, rfl, h2⟩
  have C2 := Lib.hid (C0.out.trans (C1.out.trans h2))
  clear h2 z0 z1
  generalize hbb : decide (Mem xs n s) = b at *
  have HBB := Lib.hid hbb
  clear hbb; go_wp2; go_ret
  have e9 := HBB.out
  subst e9
  exact ⟨rfl, C2.out⟩
 ·
  have eH : hasE xs n s = false := by unfold hasE; rw [decide_eq_false (by omega)]; rfl
  rw [eH]
  clear eH
  go_enter Tryz.func65, Tryz.ntmps65
  go_wp2_with fail
  rw [← W0.out]
  generalize w.heap.size = g0 at *
  refine (pacheck_any w0 A _ c xs H.out HN.out).mono ?_
  rintro e w1 ⟨rfl, h1⟩
  rw [e1]
  have C1 := Lib.hid h1
  clear h1; go_wp2; go_ret
  exact ⟨rfl, C0.out.trans C1.out⟩
end
section
open Go.RowKit Go.Lib



set_option maxHeartbeats 8000000 in
set_option maxRecDepth 100000 in
theorem qacheck_any (w : World) (A : Option Addr) (n c : Nat) (xs : List (Int × Int × Int)) (h : RdK spanTy w A n xs) (hn : n ≤ 140737488351232) : Calls Tryz.prog 111 #[.slice A n c] w fun e w' => e = .returned (.int .i64 (chkS xs)) ∧ Chg [] w w' := by
 have go : ∀ v, chkS xs = v → Calls Tryz.prog 111 #[.slice A n c] w (fun e w' => e = .returned (.int .i64 v) ∧ Chg [] w w') → Calls Tryz.prog 111 #[.slice A n c] w fun e w' => e = .returned (.int .i64 (chkS xs)) ∧ Chg [] w w' := fun v hv h => hv ▸ h
 have hl := h.len
 subst hl
 by_cases hbig : 4000 < xs.length
 ·
  refine go 2 (if_neg (by omega)) ?_
  clear go h
  go_enter Tryz.func111, Tryz.ntmps111
  go_wp2; go_ret
  exact ⟨rfl, Chg.refl _ _⟩
 ·
  skip
  have HX := Lib.hid h
  have hV : chkS xs = if okFrom none xs = true then 0 else 2 := by unfold chkS; by_cases ho : okFrom none xs = true <;> simp [ho] <;> omega
  have HV := Lib.hid hV
  clear h go
  generalize chkS xs = V at *
  clear hV
  go_enter Tryz.func111, Tryz.ntmps111
  go_wp2
  go_loopw [3] (fun i wr => ∃ (k : Nat), k ≤ xs.length ∧ i = .int .i64 k ∧ Hid (Chg [] w wr ∧ okFrom none xs = okFrom (prevS xs k) (xs.drop k) ∧ ∀ y, prevS xs k = some y → FineS y.1 y.2.1 y.2.2)) (fun i _ => xs.length - (RowKit.intOf i).toNat)
  case atStart => exact ⟨0, Nat.zero_le _, rfl, Chg.refl _ _, rfl, by unfold prevS; simp⟩
  case round =>
   obtain ⟨k, hk, rfl, HI⟩ := hrel
   generalize wr = w1 at *
   clear wr
   by_cases hlt : k < xs.length
   ·
    skip
    obtain ⟨g, o, eA, _⟩ := HX.out.line (by omega)
    subst eA
    have ex := List.getElem?_eq_getElem hlt
    generalize xs[k] = x at *
    have EX := Lib.hid ex
    have hok := okFrom_next xs k x ex
    have HOK := Lib.hid (HI.out.2.1.trans hok)
    clear ex hok
    have i0 : (0 : Int) ≤ (k : Int) := by omega
    have i1 : (k : Int) < (xs.length : Int) := by omega
    have hcc := spanCells (HX.out.chg HI.out.1 (by simp)) EX.out
    obtain ⟨p0, p1, p2⟩ := hcc
    have CW := Lib.hid HI.out.1
    obtain ⟨w2, hw2, cw2, b_B0⟩ := news1 w1 (.cells #[.int .i64 x.1, .int .i64 x.2.1, .int .i64 x.2.2] 72)
    have Ww2 := Lib.hid hw2
    have l_B0 := lt_of_heap b_B0
    replace CW := Lib.hid (CW.out.trans cw2)
    have B0 := Lib.hid (b_B0)
    clear hw2 cw2 b_B0
    go_upto_region 7 with fail
    rw [← Ww2.out]
    generalize w1.heap.size = b at *
    clear Ww2; clear p0 p1 p2
    have z_B0_0 := cell_of B0.out 0
    have z_B0_1 := cell_of B0.out 1
    have z_B0_2 := cell_of B0.out 2
    simp only [List.getElem?_toArray, List.getElem?_cons_succ, List.getElem?_cons_zero] at z_B0_0 z_B0_1 z_B0_2
    by_cases f1 : x.1 < 1
    ·
     have hd : decide (FineS x.1 x.2.1 x.2.2) = false := decide_eq_false (by unfold FineS; omega)
     have hv2 : ¬ okFrom none xs = true := by rw [HOK.out, hd]; simp
     have HV2 : V = 2 := HV.out.trans (if_neg hv2)
     subst HV2; clear hv2 hd; go_wp2; go_ret
     exact ⟨rfl, CW.out⟩
    by_cases f2 : 200 < x.1
    ·
     have hd : decide (FineS x.1 x.2.1 x.2.2) = false := decide_eq_false (by unfold FineS; omega)
     have hv2 : ¬ okFrom none xs = true := by rw [HOK.out, hd]; simp
     have HV2 : V = 2 := HV.out.trans (if_neg hv2)
     subst HV2; clear hv2 hd; go_wp2; go_ret
     exact ⟨rfl, CW.out⟩
    by_cases f3 : x.2.1 < 1
    ·
     have hd : decide (FineS x.1 x.2.1 x.2.2) = false := decide_eq_false (by unfold FineS; omega)
     have hv2 : ¬ okFrom none xs = true := by rw [HOK.out, hd]; simp
     have HV2 : V = 2 := HV.out.trans (if_neg hv2)
     subst HV2; clear hv2 hd; go_wp2; go_ret
     exact ⟨rfl, CW.out⟩
    by_cases f4 : x.2.2 < x.2.1
    ·
     have hd : decide (FineS x.1 x.2.1 x.2.2) = false := decide_eq_false (by unfold FineS; omega)
     have hv2 : ¬ okFrom none xs = true := by rw [HOK.out, hd]; simp
     have HV2 : V = 2 := HV.out.trans (if_neg hv2)
     subst HV2; clear hv2 hd; go_wp2; go_ret
     exact ⟨rfl, CW.out⟩
    by_cases f5 : 2147483647 < x.2.2
    ·
     have hd : decide (FineS x.1 x.2.1 x.2.2) = false := decide_eq_false (by unfold FineS; omega)
     have hv2 : ¬ okFrom none xs = true := by rw [HOK.out, hd]; simp
     have HV2 : V = 2 := HV.out.trans (if_neg hv2)
     subst HV2; clear hv2 hd; go_wp2; go_ret
     exact ⟨rfl, CW.out⟩
    have hf : FineS x.1 x.2.1 x.2.2 := by unfold FineS; omega
    have HFN := Lib.hid hf
    have hd := decide_eq_true hf
    rw [hd] at HOK
    clear hd hf
    go_upto_region 9 with fail
    by_cases h0 : k = 0
    ·
     subst h0
     go_quiet (fail)
     have e1 : prevS xs (0 + 1) = some x := by unfold prevS; rw [if_neg (by omega)]; exact EX.out
     have CE := Lib.hid (CW.out.drewN nq)
     go_wp2; go_round
     case rel =>
      refine ⟨0 + 1, by omega, by go_num, CE.out, ?_, ?_⟩
      ·
       rw [HOK.out]; simp [prevS]
      ·
       rw [e1]; rintro y ⟨⟩; exact HFN.out
     case measure => simp [RowKit.intOf]; omega
    ·
     have hk1 : k - 1 < xs.length := by omega
     have ey := List.getElem?_eq_getElem hk1
     generalize xs[k - 1] = y at *
     have ep : prevS xs k = some y := by unfold prevS; rw [if_neg h0]; exact ey
     have EY := Lib.hid ey
     have hfy := HI.out.2.2 y ep
     unfold FineS at hfy
     rw [ep] at HOK
     dsimp only at HOK
     clear ey ep
     have hcc := spanCells (HX.out.chg CW.out (by simp)) EY.out
     obtain ⟨p0, p1, p2⟩ := hcc
     have hk2 : ((k : Int) - 1) = ((k - 1 : Nat) : Int) := by omega
     have hk4 : ((k - 1 : Nat) : Int) < (xs.length : Int) := by omega
     have hk5 : (0 : Int) ≤ ((k - 1 : Nat) : Int) := by omega
     have hk6 : IntKind.i64.wrap ((k - 1 : Nat) : Int) = ((k - 1 : Nat) : Int) := IntWalk.i64_in _ (by omega)
     have hk7 : decide (0 < k) = true := by simp; omega
     have hk8 : IntKind.i64.wrap (y.2.2 + 1) = y.2.2 + 1 := IntWalk.i64_in _ (by omega)
     clear hfy
     by_cases g1 : x.1 < y.1
     ·
      skip
      have hA : decide (ApartS y.1 y.2.2 x.1 x.2.1) = false := decide_eq_false (by unfold ApartS; omega)
      rw [hA] at HOK
      clear hA
      go_quiet (fail)
      have hv2 : ¬ okFrom none xs = true := by rw [HOK.out]; simp
      have HV2 : V = 2 := HV.out.trans (if_neg hv2)
      subst HV2; clear hv2
      have CE := Lib.hid (CW.out.drewN nq)
      go_wp2; go_ret
      exact ⟨rfl, CE.out⟩
     by_cases g2 : x.1 = y.1
     rotate_left
     ·
      skip
      have hA : decide (ApartS y.1 y.2.2 x.1 x.2.1) = true := decide_eq_true (by unfold ApartS; omega)
      rw [hA] at HOK
      clear hA
      go_quiet (fail)
      have e1 : prevS xs (k + 1) = some x := by unfold prevS; rw [if_neg (by omega)]; exact EX.out
      have CE := Lib.hid (CW.out.drewN nq)
      go_wp2; go_round
      case rel =>
       refine ⟨k + 1, by omega, by go_num, CE.out, ?_, ?_⟩
       ·
        rw [HOK.out]; simp [e1]
       ·
        rw [e1]; rintro y ⟨⟩; exact HFN.out
      case measure => simp [RowKit.intOf]; omega
     by_cases g3 : x.2.1 ≤ y.2.2 + 1
     ·
      skip
      have hA : decide (ApartS y.1 y.2.2 x.1 x.2.1) = false := decide_eq_false (by unfold ApartS; omega)
      rw [hA] at HOK
      clear hA
      go_quiet (fail)
      have hv2 : ¬ okFrom none xs = true := by rw [HOK.out]; simp
      have HV2 : V = 2 := HV.out.trans (if_neg hv2)
      subst HV2; clear hv2
      have CE := Lib.hid (CW.out.drewN nq)
      go_wp2; go_ret
      exact ⟨rfl, CE.out⟩
     ·
      skip
      have hA : decide (ApartS y.1 y.2.2 x.1 x.2.1) = true := decide_eq_true (by unfold ApartS; omega)
      rw [hA] at HOK
      clear hA
      go_quiet (fail)
      have e1 : prevS xs (k + 1) = some x := by unfold prevS; rw [if_neg (by omega)]; exact EX.out
      have CE := Lib.hid (CW.out.drewN nq)
      go_wp2; go_round
      case rel =>
       refine ⟨k + 1, by omega, by go_num, CE.out, ?_, ?_⟩
       ·
        rw [HOK.out]; simp [e1]
       ·
        rw [e1]; rintro y ⟨⟩; exact HFN.out
      case measure => simp [RowKit.intOf]; omega
   ·
    obtain rfl : k = xs.length := by omega
    have hv := HI.out.2.1
    rw [List.drop_length] at hv
    have hv2 : okFrom none xs = true := by rw [hv]; cases prevS xs xs.length <;> rfl
    have HV2 : V = 0 := HV.out.trans (if_pos hv2)
    subst HV2; clear hv hv2; go_wp2; go_ret
    exact ⟨rfl, HI.out.1⟩
end
section
open Go.RowKit Go.Lib


def lastM (node : Int) (xs : List Sp) : Int := xs.foldl (fun n x => if x.1 = node then max n x.2.2 else n) 0
theorem lastM_take {node : Int} {xs : List Sp} {k : Nat} {x : Sp} (hx : xs[k]? = some x) : lastM node (xs.take (k + 1)) = if x.1 = node then max (lastM node (xs.take k)) x.2.2 else lastM node (xs.take k) := by
 rw [List.take_add_one, hx]; simp [lastM]
theorem last_same (node : Int) : ∀ (k : Nat) (xs : List Sp), WfC xs → lastM node (xs.take k) = lastL node (xs.take k) ∧ (lastL node (xs.take k) = 0 ∨ ∃ y ∈ xs.take k, y.1 = node ∧ y.2.2 = lastL node (xs.take k))
 | 0, xs, _ => by simp [lastM, lastL]
 | k + 1, xs, h => by
  obtain ⟨a, b⟩ := last_same node k xs h
  by_cases hk : k < xs.length
  ·
   have hx := List.getElem?_eq_getElem hk
   have e1 : lastL node (xs.take (k + 1)) = if xs[k].1 = node then xs[k].2.2 else lastL node (xs.take k) := by rw [List.take_add_one, hx]; exact last_snoc _ _ _
   rw [lastM_take hx, e1, a]
   have mem : ∀ y ∈ xs.take k, y ∈ xs.take (k + 1) := fun y hy => by rw [List.take_add_one]; exact List.mem_append_left _ hy
   split
   ·
    rename_i hn
    have bx := h.2 xs[k] (List.getElem_mem hk)
    have ox := h.1.1 xs[k] (List.getElem_mem hk)
    unfold SpOk at ox
    have le : lastL node (xs.take k) ≤ xs[k].2.2 := by
     rcases b with e | ⟨y, hy, hy1, hy2⟩
     ·
      rw [e]; omega
     ·
      obtain ⟨q, hq, rfl⟩ := List.getElem_of_mem hy
      rw [List.length_take] at hq
      rw [List.getElem_take] at hy1 hy2
      have hap := List.pairwise_iff_getElem.1 h.1.2 q k (by omega) hk (by omega)
      have oy := h.1.1 xs[q] (List.getElem_mem (by omega))
      rw [← hy2]
      unfold Ap SpOk at *
      omega
    exact ⟨by omega, .inr ⟨xs[k], List.mem_of_getElem? (i := k) (by rw [List.getElem?_take, if_pos (Nat.lt_succ_self k)]; exact hx), hn, rfl⟩⟩
   ·
    refine ⟨rfl, ?_⟩
    rcases b with e | ⟨y, hy, hy1, hy2⟩
    ·
     exact .inl e
    ·
     exact .inr ⟨y, mem y hy, hy1, hy2⟩
  ·
   rw [List.take_of_length_le (by omega : xs.length ≤ k + 1), ← List.take_of_length_le (by omega : xs.length ≤ k)]
   exact ⟨a, b⟩
theorem last_all (node : Int) {xs : List Sp} (h : WfC xs) : lastM node xs = lastL node xs := by
 have := (last_same node xs.length xs h).1
 rwa [List.take_length] at this
set_option maxRecDepth 100000 in
set_option maxHeartbeats 8000000 in
theorem qlast_any (w : World) (A : Option Addr) (c : Nat) (xs : List Sp) (node : Int) (h : RdK spanTy w A xs.length xs) (hn : xs.length ≤ 140737488351232) :
  Calls Tryz.prog 112 #[.slice A xs.length c, .int .i64 node] w fun e w' => e = .returned (.int .i64 (if chkS xs = 0 then lastL node xs else 0)) ∧ Chg [] w w' := by
 have HX := Lib.hid h
 have HN := Lib.hid hn
 clear h hn
 rcases chk_two xs with e1 | e1
 ·
  rw [if_pos e1]
  have WF := Lib.hid (wf_of_chk e1)
  go_enter Tryz.func112, Tryz.ntmps112
  go_wp2_with fail
  refine (qacheck_any w A _ c xs HX.out HN.out).mono ?_
  rintro e w1 ⟨rfl, h1⟩
  rw [e1]
  have C1 := Lib.hid h1
  replace HX := Lib.hid (HX.out.chg h1 (by simp))
  clear h1 e1; go_wp2
  go_loopw [5, 6] (fun v5 v6 wr => ∃ (k : Nat), k ≤ xs.length ∧ v5 = .int .i64 (lastM node (xs.take k)) ∧ v6 = .int .i64 k ∧ Hid (Chg [] w1 wr)) (fun _ v6 _ => xs.length - (RowKit.intOf v6).toNat)
  case atStart => exact ⟨0, Nat.zero_le _, rfl, rfl, Chg.refl _ _⟩
  case round =>
   obtain ⟨k, hk, rfl, rfl, HI⟩ := hrel
   have i0 : (0 : Int) ≤ (k : Int) := by omega
   by_cases hlt : k < xs.length
   ·
    have i1 : (k : Int) < (xs.length : Int) := by omega
    have i3 : IntKind.i64.wrap ((k : Int) + 1) = (k : Int) + 1 := IntWalk.i64_in _ (by have := HN.out; omega)
    obtain ⟨x, hx⟩ : ∃ x, xs[k]? = some x := ⟨_, List.getElem?_eq_getElem hlt⟩
    obtain ⟨g, o, eA, _⟩ := HX.out.line (by omega)
    subst eA
    obtain ⟨q0, q1, q2⟩ := spanCells (HX.out.chg HI.out (by simp)) hx
    have E2 := Lib.hid (lastM_take (node := node) hx)
    generalize lastM node (xs.take k) = m at *
    clear hx
    by_cases hnode : x.1 = node
    ·
     have EQ := Lib.hid (show lastM node (xs.take (k + 1)) = max m x.2.2 by rw [E2.out, if_pos hnode])
     have q : ((x.1 == node) : Bool) = true := by simpa using hnode
     clear hnode E2; go_wp2
     all_goals
      go_round
      case rel => exact ⟨k + 1, by omega, by (rw [EQ.out]) <;> (congr 1) <;> omega, by go_num, HI.out⟩
      case measure => simp [RowKit.intOf]; omega
    ·
     have EQ := Lib.hid (show lastM node (xs.take (k + 1)) = m by rw [E2.out, if_neg hnode])
     have q : ((x.1 == node) : Bool) = false := by simpa using hnode
     clear hnode E2; go_wp2; go_round
     case rel => exact ⟨k + 1, by omega, by rw [EQ.out], by go_num, HI.out⟩
     case measure => simp [RowKit.intOf]; omega
   ·
    obtain rfl : k = xs.length := by omega
    rw [show xs.take xs.length = xs from List.take_length, last_all node WF.out.1]
    have i1 : ¬ (xs.length : Int) < (xs.length : Int) := by omega
    go_wp2; go_ret
    exact ⟨rfl, C1.out.trans HI.out⟩
 ·
  rw [if_neg (by omega)]
  go_enter Tryz.func112, Tryz.ntmps112
  go_wp2_with fail
  refine (qacheck_any w A _ c xs HX.out HN.out).mono ?_
  rintro e w1 ⟨rfl, h1⟩
  rw [e1]
  have C1 := Lib.hid h1
  clear h1; go_wp2; go_ret
  exact ⟨rfl, C1.out⟩
set_option maxRecDepth 100000 in
set_option maxHeartbeats 8000000 in
theorem qhas_any (w : World) (A : Option Addr) (c : Nat) (xs : List Sp) (n s : Int) (h : RdK spanTy w A xs.length xs) (hn : xs.length ≤ 140737488351232) :
  Calls Tryz.prog 67 #[.slice A xs.length c, .agg #[.int .i64 n, .int .i64 s]] w fun e w' => e = .returned (.bool (hasE xs n s)) ∧ Chg [] w w' := by
 have HX := Lib.hid h
 have HN := Lib.hid hn
 clear h hn
 obtain ⟨w0, hw0, c0, b0⟩ := news1 w (.cells #[.int .i64 n, .int .i64 s] 24)
 have W0 := Lib.hid hw0
 have C0 := Lib.hid c0
 have B0 := Lib.hid b0
 replace HX := Lib.hid (HX.out.chg c0 (by simp))
 clear hw0 c0 b0
 rcases chk_two xs with e1 | e1
 ·
  have eH : hasE xs n s = decide (Mem xs n s) := by unfold hasE; rw [decide_eq_true e1]; rfl
  rw [eH]
  clear eH
  go_enter Tryz.func67, Tryz.ntmps67
  go_wp2_with fail
  rw [← W0.out]
  generalize w.heap.size = g0 at *
  refine (qacheck_any w0 A _ c xs HX.out HN.out).mono ?_
  rintro e w1 ⟨rfl, h1⟩
  rw [e1]
  have C1 := Lib.hid h1
  replace HX := Lib.hid (HX.out.chg h1 (by simp))
  replace B0 := Lib.hid (h1.at_ B0.out (by simp))
  clear h1 e1; go_wp2
  go_loopw [5] (fun v5 wr => ∃ (k : Nat), k ≤ xs.length ∧ v5 = .int .i64 k ∧ Hid (¬ Mem (xs.take k) n s) ∧ Hid (Chg [] w1 wr)) (fun v5 _ => xs.length - (RowKit.intOf v5).toNat)
  case atStart => exact ⟨0, Nat.zero_le _, rfl, Lib.hid (by simpa using mem_nil), Chg.refl _ _⟩
  case round =>
   obtain ⟨k, hk, rfl, NM, HI⟩ := hrel
   have i0 : (0 : Int) ≤ (k : Int) := by omega
   by_cases hlt : k < xs.length
   ·
    have i1 : (k : Int) < (xs.length : Int) := by omega
    have i3 : IntKind.i64.wrap ((k : Int) + 1) = (k : Int) + 1 := IntWalk.i64_in _ (by have := HN.out; omega)
    obtain ⟨x, hx⟩ : ∃ x, xs[k]? = some x := ⟨_, List.getElem?_eq_getElem hlt⟩
    obtain ⟨g, o, eA, _⟩ := HX.out.line (by omega)
    subst eA
    obtain ⟨q0, q1, q2⟩ := spanCells (HX.out.chg HI.out (by simp)) hx
    have b2 := HI.out.at_ B0.out (by simp)
    have d0 := cell_of b2 0
    have d1 := cell_of b2 1
    simp only [List.getElem?_toArray, List.getElem?_cons_succ, List.getElem?_cons_zero] at d0 d1
    have NX : Hid (¬ InS x n s → ¬ Mem (xs.take (k + 1)) n s) := Lib.hid (fun hni hm => by
     rw [List.take_add_one, hx] at hm
     rcases mem_append.1 hm with q | q
     ·
      exact NM.out q
     ·
      exact hni (mem_one.1 q))
    have YX : Hid (InS x n s → decide (Mem xs n s) = true) := Lib.hid (fun hi => decide_eq_true ⟨x, List.mem_of_getElem? hx, hi⟩)
    clear hx b2
    by_cases p1 : x.1 = n
    rotate_left
    ·
     have NO := Lib.hid (NX.out (fun hi => p1 hi.1))
     have q : ((x.1 == n) : Bool) = false := by simpa using p1
     clear p1 NX YX
     go_upto_region 6 with fail
     go_quiet (fail)
     have hq := (Chg.refl [] wr).drewN nq
     generalize wr.drewN nq = w2 at *
     have C2 := Lib.hid (HI.out.trans hq)
     clear q0 q1 q2 d0 d1 hq; go_wp2; go_round
     case rel => exact ⟨k + 1, by omega, by go_num, NO, C2.out⟩
     case measure => simp [RowKit.intOf]; omega
    by_cases p2 : x.2.1 ≤ s
    rotate_left
    ·
     have NO := Lib.hid (NX.out (fun hi => p2 hi.2.1))
     have q : ((x.1 == n) : Bool) = true := by simpa using p1
     clear p1 NX YX
     go_upto_region 6 with fail
     go_quiet (fail)
     have hq := (Chg.refl [] wr).drewN nq
     generalize wr.drewN nq = w2 at *
     have C2 := Lib.hid (HI.out.trans hq)
     clear q0 q1 q2 d0 d1 hq; go_wp2; go_round
     case rel => exact ⟨k + 1, by omega, by go_num, NO, C2.out⟩
     case measure => simp [RowKit.intOf]; omega
    by_cases p3 : s ≤ x.2.2
    rotate_left
    ·
     have NO := Lib.hid (NX.out (fun hi => p3 hi.2.2))
     have q : ((x.1 == n) : Bool) = true := by simpa using p1
     clear p1 NX YX
     go_upto_region 6 with fail
     go_quiet (fail)
     have hq := (Chg.refl [] wr).drewN nq
     generalize wr.drewN nq = w2 at *
     have C2 := Lib.hid (HI.out.trans hq)
     clear q0 q1 q2 d0 d1 hq; go_wp2; go_round
     case rel => exact ⟨k + 1, by omega, by go_num, NO, C2.out⟩
     case measure => simp [RowKit.intOf]; omega
    have YES := Lib.hid (YX.out ⟨p1, p2, p3⟩)
    have q : ((x.1 == n) : Bool) = true := by simpa using p1
    clear p1 NX YX
    go_upto_region 6 with fail
    go_quiet (fail)
    have hq := (Chg.refl [] wr).drewN nq
    generalize wr.drewN nq = w2 at *
    have C2 := Lib.hid (HI.out.trans hq)
    clear q0 q1 q2 d0 d1 hq; go_wp2; go_ret
    exact ⟨(by first | exact of_decide_eq_true YES.out | exact (of_decide_eq_true YES.out : Mem xs n s) | (rw [YES.out]; rfl)), C0.out.trans (C1.out.trans C2.out)⟩
   ·
    obtain rfl : k = xs.length := by omega
    have NO : Hid (decide (Mem xs n s) = false) := Lib.hid (by have := NM.out; rw [List.take_length] at this; exact decide_eq_false this)
    have i1 : ¬ (xs.length : Int) < (xs.length : Int) := by omega
    go_wp2; go_ret
    exact ⟨(by first | exact of_decide_eq_false NO.out | (rw [NO.out]; rfl)), C0.out.trans (C1.out.trans HI.out)⟩
 ·
  have eH : hasE xs n s = false := by unfold hasE; rw [decide_eq_false (by omega)]; rfl
  rw [eH]
  clear eH
  go_enter Tryz.func67, Tryz.ntmps67
  go_wp2_with fail
  rw [← W0.out]
  generalize w.heap.size = g0 at *
  refine (qacheck_any w0 A _ c xs HX.out HN.out).mono ?_
  rintro e w1 ⟨rfl, h1⟩
  rw [e1]
  have C1 := Lib.hid h1
  clear h1; go_wp2; go_ret
  exact ⟨rfl, C0.out.trans C1.out⟩
end
section
open Go.RowKit Go.Lib


set_option maxRecDepth 100000 in
set_option maxHeartbeats 8000000 in
theorem ahead_any (w : World) (x y : Sp) : Calls Tryz.prog 184 #[.agg #[.int .i64 x.1, .int .i64 x.2.1, .int .i64 x.2.2], .agg #[.int .i64 y.1, .int .i64 y.2.1, .int .i64 y.2.2]] w fun e w' => e = .returned (.bool (decide (Lt3 x y))) ∧ Chg [] w w' := by
 obtain ⟨w1, hw1, c1, b0, b1⟩ := news2 w (.cells #[.int .i64 x.1, .int .i64 x.2.1, .int .i64 x.2.2] 72) (.cells #[.int .i64 y.1, .int .i64 y.2.1, .int .i64 y.2.2] 72)
 have W1 := Lib.hid hw1
 have C1 := Lib.hid c1
 have y0 := cell_of b0 0
 have y1 := cell_of b0 1
 have y2 := cell_of b0 2
 have z0 := cell_of b1 0
 have z1 := cell_of b1 1
 have z2 := cell_of b1 2
 simp only [List.getElem?_toArray, List.getElem?_cons_succ, List.getElem?_cons_zero] at y0 y1 y2 z0 z1 z2
 clear hw1 c1 b0 b1
 have fin : ∀ v, decide (Lt3 x y) = v → Calls Tryz.prog 184 #[.agg #[.int .i64 x.1, .int .i64 x.2.1, .int .i64 x.2.2], .agg #[.int .i64 y.1, .int .i64 y.2.1, .int .i64 y.2.2]] w (fun e w' => e = .returned (.bool v) ∧ Chg [] w w') → Calls Tryz.prog 184 #[.agg #[.int .i64 x.1, .int .i64 x.2.1, .int .i64 x.2.2], .agg #[.int .i64 y.1, .int .i64 y.2.1, .int .i64 y.2.2]] w fun e w' => e = .returned (.bool (decide (Lt3 x y))) ∧ Chg [] w w' := fun v hv h => hv ▸ h
 obtain ⟨x1, x2, x3⟩ := x
 obtain ⟨u1, u2, u3⟩ := y
 dsimp only at *
 rcases Int.lt_trichotomy x1 u1 with h | h | h
 ·
  have f1 : x1 < u1 := h
  refine fin true (decide_eq_true (.inl h)) ?_
  clear fin
  go_enter Tryz.func184, Tryz.ntmps184
  go_upto_region 1 with fail
  rw [← W1.out]
  generalize w.heap.size = g0 at *
  go_wp2; go_ret
  exact ⟨rfl, C1.out⟩
 ·
  subst h
  have f0 : ¬ x1 < x1 := by omega
  have f3 : ((x1 == x1) : Bool) = true := by simp
  rcases Int.lt_trichotomy x2 u2 with h2 | h2 | h2
  ·
   have f1 : x2 < u2 := h2
   refine fin true (decide_eq_true (.inr ⟨rfl, .inl h2⟩)) ?_
   clear fin
   go_enter Tryz.func184, Tryz.ntmps184
   go_upto_region 1 with fail
   rw [← W1.out]
   generalize w.heap.size = g0 at *
   go_wp2; go_ret
   exact ⟨rfl, C1.out⟩
  ·
   subst h2
   have f4 : ¬ x2 < x2 := by omega
   have f5 : ((x2 == x2) : Bool) = true := by simp
   by_cases h3 : x3 < u3
   ·
    skip
    refine fin true (decide_eq_true (.inr ⟨rfl, .inr ⟨rfl, h3⟩⟩)) ?_
    clear fin
    go_enter Tryz.func184, Tryz.ntmps184
    go_upto_region 1 with fail
    rw [← W1.out]
    generalize w.heap.size = g0 at *
    go_wp2; go_ret
    exact ⟨rfl, C1.out⟩
   refine fin false (decide_eq_false (by unfold Lt3; simp only; omega)) ?_
   clear fin
   go_enter Tryz.func184, Tryz.ntmps184
   go_upto_region 1 with fail
   rw [← W1.out]
   generalize w.heap.size = g0 at *
   go_wp2; go_ret
   exact ⟨rfl, C1.out⟩
  ·
   have f4 : ¬ x2 < u2 := by omega
   have f5 : ((x2 == u2) : Bool) = false := by simp; omega
   refine fin false (decide_eq_false (by unfold Lt3; simp only; omega)) ?_
   clear fin
   go_enter Tryz.func184, Tryz.ntmps184
   go_upto_region 1 with fail
   rw [← W1.out]
   generalize w.heap.size = g0 at *
   go_wp2; go_ret
   exact ⟨rfl, C1.out⟩
 ·
  have f1 : ¬ x1 < u1 := by omega
  have f3 : ((x1 == u1) : Bool) = false := by simp; omega
  refine fin false (decide_eq_false (by unfold Lt3; simp only; omega)) ?_
  clear fin
  go_enter Tryz.func184, Tryz.ntmps184
  go_upto_region 1 with fail
  rw [← W1.out]
  generalize w.heap.size = g0 at *
  go_wp2; go_ret
  exact ⟨rfl, C1.out⟩
end
section
open Go.RowKit Go.Lib


def FineQ (n s : Int) : Prop := 1 ≤ n ∧ n ≤ 200 ∧ 1 ≤ s ∧ s ≤ 2147483647
instance (n s : Int) : Decidable (FineQ n s) := by unfold FineQ; exact inferInstance
theorem chk_dot (n s : Int) : chkS [(n, s, s)] = if FineQ n s then 0 else 2 := by
 by_cases h : FineQ n s
 ·
  rw [if_pos h]
  unfold FineQ at h
  refine chk_of_wf ⟨⟨fun x hx => ?_, List.pairwise_singleton _ _⟩, fun x hx => ?_⟩ (by simp)
  ·
   cases List.mem_singleton.1 hx; unfold SpOk; simp
  ·
   cases List.mem_singleton.1 hx; simp only; omega
 ·
  rw [if_neg h]
  rcases chk_two [(n, s, s)] with e | e
  ·
   have w := (wf_of_chk e).1.2 (n, s, s) (by simp)
   simp only at w
   exact absurd (by unfold FineQ; omega) h
  ·
   exact e
set_option maxRecDepth 100000 in
set_option maxHeartbeats 4000000 in
theorem hcheck_dot (w : World) (n s : Int) : Calls Tryz.prog 108 #[.agg #[.int .i64 n, .int .i64 s]] w fun e w' => e = .returned (.int .i64 (chkS [(n, s, s)])) ∧ Chg [] w w' := by
 have go : ∀ v, chkS [(n, s, s)] = v → Calls Tryz.prog 108 #[.agg #[.int .i64 n, .int .i64 s]] w (fun e w' => e = .returned (.int .i64 v) ∧ Chg [] w w') → Calls Tryz.prog 108 #[.agg #[.int .i64 n, .int .i64 s]] w fun e w' => e = .returned (.int .i64 (chkS [(n, s, s)])) ∧ Chg [] w w' := fun v e h => by rw [e]; exact h
 have CD := chk_dot n s
 obtain ⟨w1, hw1, c1, b0⟩ := news1 w (.cells #[.int .i64 n, .int .i64 s] 24)
 have W1 := Lib.hid hw1
 have C1 := Lib.hid c1
 have z0 := cell_of b0 0
 have z1 := cell_of b0 1
 simp only [List.getElem?_toArray, List.getElem?_cons_succ, List.getElem?_cons_zero] at z0 z1
 clear hw1 c1 b0
 by_cases h1 : n < 1
 ·
  skip
  refine go 2 (by rw [CD, if_neg (by unfold FineQ; omega)]) ?_
  clear go CD
  go_enter Tryz.func108, Tryz.ntmps108
  go_upto_region 1 with fail
  rw [← W1.out]
  generalize w.heap.size = g0 at *
  go_wp2; go_ret
  exact ⟨rfl, C1.out⟩
 by_cases h2 : 200 < n
 ·
  skip
  refine go 2 (by rw [CD, if_neg (by unfold FineQ; omega)]) ?_
  clear go CD
  go_enter Tryz.func108, Tryz.ntmps108
  go_upto_region 1 with fail
  rw [← W1.out]
  generalize w.heap.size = g0 at *
  go_wp2; go_ret
  exact ⟨rfl, C1.out⟩
 by_cases h3 : s < 1
 ·
  skip
  refine go 2 (by rw [CD, if_neg (by unfold FineQ; omega)]) ?_
  clear go CD
  go_enter Tryz.func108, Tryz.ntmps108
  go_upto_region 1 with fail
  rw [← W1.out]
  generalize w.heap.size = g0 at *
  go_wp2; go_ret
  exact ⟨rfl, C1.out⟩
 by_cases h4 : 2147483647 < s
 ·
  skip
  refine go 2 (by rw [CD, if_neg (by unfold FineQ; omega)]) ?_
  clear go CD
  go_enter Tryz.func108, Tryz.ntmps108
  go_upto_region 1 with fail
  rw [← W1.out]
  generalize w.heap.size = g0 at *
  go_wp2; go_ret
  exact ⟨rfl, C1.out⟩
 refine go 0 (by rw [CD, if_pos (by unfold FineQ; omega)]) ?_
 clear go CD
 go_enter Tryz.func108, Tryz.ntmps108
 go_upto_region 1 with fail
 rw [← W1.out]
 generalize w.heap.size = g0 at *
 go_wp2; go_ret
 exact ⟨rfl, C1.out⟩
end
section
def boundP (l : List Sp) : Int × List Sp := if 4000 < l.length then (8, []) else (0, l)
end
section
open Go.RowKit Go.Lib

theorem bounded_few (w : World) (A : Option Addr) (n c : Nat) (h : n ≤ 4000) :
  Calls Tryz.prog 90 #[.slice A n c] w fun e w' => e = .returned (.tuple #[.slice A n c, .int .i64 0]) ∧ Chg [] w w' := by
 go_enter Tryz.func90, Tryz.ntmps90
 go_wp2; go_ret2
 exact ⟨rfl, Chg.refl _ _⟩
theorem bounded_many (w : World) (A : Option Addr) (n c : Nat) (h : 4000 < n) :
  Calls Tryz.prog 90 #[.slice A n c] w fun e w' => e = .returned (.tuple #[.slice none 0 0, .int .i64 8]) ∧ Chg [] w w' := by
 go_enter Tryz.func90, Tryz.ntmps90
 go_wp2; go_ret2
 exact ⟨rfl, Chg.refl _ _⟩
set_option maxHeartbeats 1000000 in
theorem alone_any (w : World) (n s : Int) : Calls Tryz.prog 95 #[.agg #[.int .i64 n, .int .i64 s]] w fun e w' => e = .returned (.agg #[.int .i64 n, .int .i64 s, .int .i64 s]) ∧ Chg [] w w' := by
 go_enter Tryz.func95, Tryz.ntmps95
 go_wp2
 refine bodyPost_ret (v := .agg #[.int .i64 n, .int .i64 s, .int .i64 s]) (by simp [results, Tryz.results95, go_sem]) rfl ?_
 exact ⟨rfl, ((Chg.refl [] w).alloc _).alloc _⟩
end
section
open Go.RowKit Go.Lib


theorem rd_oneS {w : World} {g : Nat} {x : Int × Int × Int} (h : w.heap[g]? = some (.cells #[.int .i64 x.1, .int .i64 x.2.1, .int .i64 x.2.2] 72)) : RdK spanTy w (some ⟨g, 0, none⟩) 1 [x] :=
 ⟨rfl, fun j v hj => ⟨_, rfl, by rw [add_zero_lit, cell_of h j]; simpa [RowTy.flat, spanTy] using hj⟩⟩

set_option maxHeartbeats 4000000 in
set_option maxRecDepth 100000 in
theorem push_first (w : World) (c : Nat) (n f t : Int) (A : Option Addr) (h : OwnK spanTy w A c []) : Calls Tryz.prog 94 #[.slice A 0 c, .agg #[.int .i64 n, .int .i64 f, .int .i64 t]] w fun e w' => ∃ A' c', e = .returned (.slice A' 1 c') ∧ OwnK spanTy w' A' c' [(n, f, t)] ∧ (A' = A ∨ ∀ a, A' = some a → w.heap.size ≤ a.block) ∧ ∀ S : List Nat, (∀ a, A = some a → a.block ∈ S) → Chg S w w' := by
 have HO := Lib.hid h
 clear h
 have C := Lib.hid (Chg.refl [] w)
 obtain ⟨w1, hw1, cw1, b_B0⟩ := news1 w (.cells #[.int .i64 n, .int .i64 f, .int .i64 t] 72)
 have Ww1 := Lib.hid hw1
 have l_B0 := lt_of_heap b_B0
 replace C := Lib.hid (C.out.trans cw1)
 replace HO := Lib.hid (HO.out.chg cw1 (by simp))
 have B0 := Lib.hid (b_B0)
 clear hw1 cw1 b_B0
 go_enter Tryz.func94, Tryz.ntmps94
 go_upto_region 6 with fail
 rw [← Ww1.out]
 generalize w.heap.size = b0 at *
 clear Ww1
 obtain ⟨w2, hw2, c2, b1⟩ := news1 w1 (.cells #[.int .i64 n, .int .i64 f, .int .i64 t] 72)
 have W2 := Lib.hid hw2
 have HR := Lib.hid (rd_oneS (x := (n, f, t)) b1)
 have HO2 := Lib.hid (HO.out.chg c2 (by simp))
 have C2 := Lib.hid (C.out.trans c2)
 clear hw2 c2 b1
 have z_B0_0 := cell_of B0.out 0
 have z_B0_1 := cell_of B0.out 1
 have z_B0_2 := cell_of B0.out 2
 simp only [List.getElem?_toArray, List.getElem?_cons_succ, List.getElem?_cons_zero] at z_B0_0 z_B0_1 z_B0_2
 go_wp2_with (at_builtin; rw [← W2.out]; refine wpList_appK rfl _ _ rfl rfl HO2.out rfl rfl HR.out (by decide) ?_; intro A3 c3 w3 u3 d3 e3)
 go_ret
 refine ⟨A3, c3, rfl, by simpa using u3, ?_, fun S hS => ?_⟩
 ·
  rcases e3 with e | e
  ·
   exact .inl e
  ·
   right; intro a ha; rw [e] at ha; cases ha; exact C2.out.size
 ·
  refine (C2.out.mono (by simp)).grown d3 ?_
  intro k hk
  cases A with
  | none => simp at hk
  | some a => simp at hk; subst hk; exact .inl (hS a rfl)
end
section
open Go.RowKit Go.Lib



set_option maxHeartbeats 4000000 in
set_option maxRecDepth 100000 in
theorem push_apart (w : World) (c : Nat) (n f t : Int) (A : Option Addr) (xs : List (Int × Int × Int)) (y : Int × Int × Int) (h : OwnK spanTy w A c xs) (hx : 0 < xs.length) (hn : xs.length ≤ 100000) (hy : xs[xs.length - 1]? = some y) (y1 : -2147483648 ≤ y.2.2) (y2 : y.2.2 ≤ 2147483647) (ha : ApartS y.1 y.2.2 n f) : Calls Tryz.prog 94 #[.slice A xs.length c, .agg #[.int .i64 n, .int .i64 f, .int .i64 t]] w fun e w' => ∃ A' c', e = .returned (.slice A' (xs.length + 1) c') ∧ OwnK spanTy w' A' c' (xs ++ [(n, f, t)]) ∧ (A' = A ∨ ∀ a, A' = some a → w.heap.size ≤ a.block) ∧ ∀ S : List Nat, (∀ a, A = some a → a.block ∈ S) → Chg S w w' := by
 have HO := Lib.hid h
 obtain ⟨g, o, eA, _⟩ := h.reads.line hx
 have eo : o = 0 := by
  rcases h.shape with ⟨h1, _⟩ | ⟨g', h1, _⟩
  ·
   rw [h1] at eA; cases eA
  ·
   rw [h1] at eA; cases eA; rfl
 subst eo; subst eA
 have EY := Lib.hid hy
 clear h hy
 have C := Lib.hid (Chg.refl [] w)
 have hA : decide (ApartS y.1 y.2.2 n f) = true := decide_eq_true ha
 have LA := Lib.hid (fun w => apart_any w y.1 y.2.1 y.2.2 n f t y1 y2)
 rw [hA] at LA
 clear hA ha
 have k1 : (0 : Int) < (xs.length : Int) := by omega
 have k2 : ((xs.length : Int) - 1) = ((xs.length - 1 : Nat) : Int) := by omega
 have k3 : ((xs.length - 1 : Nat) : Int) < (xs.length : Int) := by omega
 have k4 : (0 : Int) ≤ ((xs.length - 1 : Nat) : Int) := by omega
 have k5 : IntKind.i64.wrap ((xs.length - 1 : Nat) : Int) = ((xs.length - 1 : Nat) : Int) := IntWalk.i64_in _ (by omega)
 have k6 : decide (0 < xs.length) = true := by simp; omega
 have k7 : decide ((0 : Int) < (xs.length : Int)) = true := by simp; omega
 have N4 := Lib.hid (show (xs.length + 1) * 400 ≤ 140737488355327 by omega)
 obtain ⟨w1, hw1, cw1, b_B0⟩ := news1 w (.cells #[.int .i64 n, .int .i64 f, .int .i64 t] 72)
 have Ww1 := Lib.hid hw1
 have l_B0 := lt_of_heap b_B0
 replace C := Lib.hid (C.out.trans cw1)
 replace HO := Lib.hid (HO.out.chg cw1 (by simp))
 have B0 := Lib.hid (b_B0)
 clear hw1 cw1 b_B0
 go_enter Tryz.func94, Tryz.ntmps94
 go_upto_region 3 with fail
 rw [← Ww1.out]
 generalize w.heap.size = b0 at *
 clear Ww1
 have HY0 := Lib.hid (fun (w' : World) (hc : Chg [] w1 w') => spanCells (HO.out.reads.chg hc (by simp)) EY.out)
 have hc0 : ∀ w', Chg [] w1 w' → w'.cell? ⟨b0, 0, none⟩ = some (.int .i64 n) ∧ w'.cell? ⟨b0, 1, none⟩ = some (.int .i64 f) ∧ w'.cell? ⟨b0, 2, none⟩ = some (.int .i64 t) := by
  intro w' hc
  have b1 := hc.at_ B0.out (by simp)
  exact ⟨cell_of b1 0, cell_of b1 1, cell_of b1 2⟩
 have HC0 := Lib.hid hc0
 clear hc0
 refine wp_region_held_drew (S := fun w' => Chg [] w1 w') (by kernel_rfl) (Chg.refl [] w1).drew (fun hHeld => ?_)
 refine step_yes 0 14 ?_ (by assumption) rfl rfl (by kernel_rfl) (by kernel_rfl) (by kernel_rfl) (fun _ _ _ h => h) (by rfl) ?_ ?_
 rotate_left
 ·
  (intro w hSw; (try dsimp only at hSw); go_simp; try with_reducible rfl)
 try simp only [Act.put, List.setIfInBounds_toArray, List.set_cons_zero, List.set_cons_succ]
 refine step_yes 1 15 ?_ (by assumption) rfl rfl (by kernel_rfl) (by kernel_rfl) (by kernel_rfl) (fun _ _ _ h => h) (by rfl) ?_ ?_
 rotate_left
 ·
  (intro w hSw; (try dsimp only at hSw); go_simp; try with_reducible rfl)
 try simp only [Act.put, List.setIfInBounds_toArray, List.set_cons_zero, List.set_cons_succ]
 refine step_yes 2 16 ?_ (by assumption) rfl rfl (by kernel_rfl) (by kernel_rfl) (by kernel_rfl) (fun _ _ _ h => h) (by rfl) ?_ ?_
 rotate_left
 ·
  (intro w hSw; (try dsimp only at hSw); have hq := HY0.out _ hSw; obtain ⟨q0, q1, q2⟩ := hq; simp only [Nat.zero_add] at q0 q1 q2; go_simp; try with_reducible rfl)
 try simp only [Act.put, List.setIfInBounds_toArray, List.set_cons_zero, List.set_cons_succ]
 refine step_yes 3 17 ?_ (by assumption) rfl rfl (by kernel_rfl) (by kernel_rfl) (by kernel_rfl) (fun _ _ _ h => h) (by rfl) ?_ ?_
 rotate_left
 ·
  (intro w hSw; (try dsimp only at hSw); have hq := HC0.out _ hSw; obtain ⟨q0, q1, q2⟩ := hq; go_simp; try with_reducible rfl)
 try simp only [Act.put, List.setIfInBounds_toArray, List.set_cons_zero, List.set_cons_succ]
 refine wpAnyH_ready (rs := [4]) (by kernel_rfl) (by simp) ?_; refine AllReadyH.cons rfl (fun K hK => ?_) AllReadyH.nil; replace hK := Lib.hid hK; go_simp
 refine (LA.out _).mono ?_
 rintro e w9 ⟨rfl, hc⟩
 have C9 := Lib.hid (hHeld.trans hc)
 clear hc hHeld
 refine hK.out _ _ C9.out (fun hHeld => ?_)
 clear hK K
 try simp only [Act.put, List.setIfInBounds_toArray, List.set_cons_zero, List.set_cons_succ]
 refine step_yes 5 19 ?_ (by assumption) rfl rfl (by kernel_rfl) (by kernel_rfl) (by kernel_rfl) (fun _ _ _ h => h) (by rfl) ?_ ?_
 rotate_left
 ·
  (intro w hSw; (try dsimp only at hSw); go_simp; try with_reducible rfl)
 try simp only [Act.put, List.setIfInBounds_toArray, List.set_cons_zero, List.set_cons_succ]
 refine wpAnyH_done (by kernel_rfl) ?_ _
 replace B0 := Lib.hid (C9.out.at_ B0.out (by simp))
 replace HO := Lib.hid (HO.out.chg C9.out (by simp))
 replace C := Lib.hid (C.out.trans C9.out)
 clear HY0 HC0 C9 hHeld
 go_upto_region 6 with fail
 obtain ⟨w2, hw2, c2, b1⟩ := news1 w9 (.cells #[.int .i64 n, .int .i64 f, .int .i64 t] 72)
 have W2 := Lib.hid hw2
 have HR := Lib.hid (rd_oneS (x := (n, f, t)) b1)
 have HO2 := Lib.hid (HO.out.chg c2 (by simp))
 have C2 := Lib.hid (C.out.trans c2)
 clear hw2 c2 b1
 have z_B0_0 := cell_of B0.out 0
 have z_B0_1 := cell_of B0.out 1
 have z_B0_2 := cell_of B0.out 2
 simp only [List.getElem?_toArray, List.getElem?_cons_succ, List.getElem?_cons_zero] at z_B0_0 z_B0_1 z_B0_2
 go_wp2_with (at_builtin; rw [← W2.out]; refine wpList_appK rfl _ _ rfl rfl HO2.out rfl rfl HR.out N4.out ?_; intro A3 c3 w3 u3 d3 e3)
 go_ret
 refine ⟨A3, c3, rfl, u3, ?_, fun S hS => ?_⟩
 ·
  rcases e3 with e | e
  ·
   exact .inl e
  ·
   right; intro a ha; rw [e] at ha; cases ha; exact C2.out.size
 ·
  refine (C2.out.mono (by simp)).grown d3 ?_
  intro k hk
  simp at hk; subst hk; exact .inl (hS _ rfl)
end
end Go.Proofs.YtomgjogkkoigbaaGreatDoor
