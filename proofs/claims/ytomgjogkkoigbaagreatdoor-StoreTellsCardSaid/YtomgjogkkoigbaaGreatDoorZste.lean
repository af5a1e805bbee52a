/- Rows of events; the kit's SameEvents. A run of the program on marks in the place of blocks: plain functions that the kernel can run. No program is named here. What a mark stands for: values, rows and worlds against their marks. No program is named here. Worlds against marks: what holds of each mark, and a step from one to the next. No program is named here. -/
import Derived.Test.YtomgjogkkoigbaaGreatDoorZstd
import Derived.Deep.Cut
import Derived.Test.YtomgjogkkoigbaaGreatDoorRows
import Derived.RangeFuncLeaves
import Derived.OrdersIn
import Derived.LoopNIn
import Derived.WalkKit
import Derived.Below
set_option linter.unusedSimpArgs false
set_option linter.unusedVariables false
namespace Go.Proofs.YtomgjogkkoigbaaGreatDoor
section
open Go.RowKit Go.Lib


def EvsR (w : World) (xs : List EvT) (es : List EvP) : Prop := xs.length = es.length ∧ ∀ (i : Nat) (x : EvT) (e : EvP), xs[i]? = some x → es[i]? = some e → EvR w x e
theorem EvsR.chg {w w' : World} {xs : List EvT} {es : List EvP} (h : EvsR w xs es) (hc : Chg [] w w') : EvsR w' xs es := ⟨h.1, fun i x e hx he => (h.2 i x e hx he).chg hc⟩
theorem EvsR.at_ {w : World} {xs : List EvT} {es : List EvP} (h : EvsR w xs es) {i : Nat} (hi : i < xs.length) : ∃ x e, xs[i]? = some x ∧ es[i]? = some e ∧ EvR w x e :=
 ⟨_, _, List.getElem?_eq_getElem hi, List.getElem?_eq_getElem (by rw [← h.1]; exact hi), h.2 i _ _ (List.getElem?_eq_getElem hi) (List.getElem?_eq_getElem (by rw [← h.1]; exact hi))⟩
theorem EvsR.nil (w : World) : EvsR w [] [] := ⟨rfl, fun i x e hx _ => by simp at hx⟩
def sameL : List EvP → List EvP → Bool
 | [], [] => true
 | a :: l, b :: m => sameP a b && sameL l m
 | _, _ => false
theorem sameL_len : ∀ {l m : List EvP}, sameL l m = true → l.length = m.length
 | [], [], _ => rfl
 | a :: l, b :: m, h => by
  simp only [sameL, Bool.and_eq_true] at h
  rw [List.length_cons, List.length_cons, sameL_len h.2]
 | [], _ :: _, h => by simp [sameL] at h
 | _ :: _, [], h => by simp [sameL] at h
theorem sameL_at : ∀ {l m : List EvP}, l.length = m.length → (∀ (i : Nat) (a b : EvP), l[i]? = some a → m[i]? = some b → sameP a b = true) → sameL l m = true
 | [], [], _, _ => rfl
 | a :: l, b :: m, hl, h => by
  simp only [sameL, Bool.and_eq_true]
  exact ⟨h 0 a b rfl rfl, sameL_at (by simpa using hl) (fun i x y hx hy => h (i + 1) x y (by simpa using hx) (by simpa using hy))⟩
 | [], _ :: _, hl, _ => by simp at hl
 | _ :: _, [], hl, _ => by simp at hl
theorem sameL_no : ∀ {l m : List EvP} (i : Nat) (a b : EvP), l[i]? = some a → m[i]? = some b → sameP a b = false → sameL l m = false
 | [], m, i, a, b, h, _, _ => by simp at h
 | _ :: _, [], i, a, b, _, h, _ => by simp at h
 | x :: l, y :: m, 0, a, b, hx, hy, h => by
  simp at hx hy
  subst hx hy
  simp [sameL, h]
 | x :: l, y :: m, i + 1, a, b, hx, hy, h => by
  simp only [sameL, Bool.and_eq_false_iff]
  exact .inr (sameL_no i a b (by simpa using hx) (by simpa using hy) h)
theorem sameP_refl (a : EvP) : sameP a a = true := by unfold sameP; simp
theorem sameL_refl (l : List EvP) : sameL l l = true := sameL_at rfl (fun i a b h k => by rw [h] at k; cases k; exact sameP_refl a)

set_option maxRecDepth 100000 in
set_option maxHeartbeats 8000000 in
theorem sameevs_any (w : World) (A B : Option Addr) (c d : Nat) (xs ys : List EvT) (es fs : List EvP) (h : RdK evTy w A xs.length xs) (h' : RdK evTy w B ys.length ys) (hx : EvsR w xs es) (hy : EvsR w ys fs) (hn : xs.length ≤ 100000 ∧ ys.length ≤ 100000) (hq : (∀ e ∈ es, e.q.length ≤ 140737488351232) ∧ (∀ e ∈ fs, e.q.length ≤ 140737488351232)) :
  Calls Tryz.prog 17 #[.slice A xs.length c, .slice B ys.length d] w fun r w' => r = .returned (.bool (sameL es fs)) ∧ Chg [] w w' := by
 have HA := Lib.hid h
 have HB := Lib.hid h'
 have HX := Lib.hid hx
 have HY := Lib.hid hy
 have HN := Lib.hid hn
 have HQ := Lib.hid hq
 clear h h' hx hy hn hq
 generalize hv : sameL es fs = v
 have HV := Lib.hid hv
 clear hv
 by_cases hne : xs.length = ys.length
 rotate_left
 ·
  have hb : ((xs.length : Int) == (ys.length : Int)) = false := by simp; omega
  have hb2 : ((xs.length : Int) != (ys.length : Int)) = true := by simp; omega
  obtain rfl : v = false := by
   rw [← HV.out]
   cases q : sameL es fs with
   | false => rfl
   | true => exact absurd (sameL_len q) (by rw [← HX.out.1, ← HY.out.1]; exact hne)
  clear hne
  go_enter Tryz.func17, Tryz.ntmps17
  go_wp2; go_ret
  exact ⟨rfl, Chg.refl _ _⟩
 have hb : ((xs.length : Int) == (ys.length : Int)) = true := by simp; omega
 have hb2 : ((xs.length : Int) != (ys.length : Int)) = false := by simp; omega
 have NE_ := Lib.hid hne
 clear hne
 go_enter Tryz.func17, Tryz.ntmps17
 go_wp2; clear hb hb2
 go_loopw [5] (fun i wr => ∃ k : Nat, k ≤ xs.length ∧ i = .int .i64 k ∧ Hid (∀ (j : Nat) (a b : EvP), j < k → es[j]? = some a → fs[j]? = some b → sameP a b = true) ∧ Hid (Chg [] w wr)) (fun i _ => xs.length - (RowKit.intOf i).toNat)
 case atStart => exact ⟨0, Nat.zero_le _, rfl, Lib.hid (fun j a b hj => absurd hj (by omega)), Chg.refl _ _⟩
 case round =>
  obtain ⟨k, hk, rfl, TK, RC⟩ := hrel
  have i0 : (0 : Int) ≤ (k : Int) := by omega
  by_cases hlt : k < xs.length
  ·
   have hlt2 : k < ys.length := by have := NE_.out; omega
   obtain ⟨g, o, eA, _⟩ := HA.out.line (by omega)
   obtain ⟨g2, o2, eB, _⟩ := HB.out.line (by omega)
   subst eA eB
   obtain ⟨x, e, ex, ee, rx⟩ := HX.out.at_ hlt
   obtain ⟨y, f, ey, ef, ry⟩ := HY.out.at_ hlt2
   have DX : Hid (∀ w', Chg [] w w' → (fun w' => (w'.cell? ⟨g, o + k * 7, none⟩ = some (.int .i64 x.n) ∧ w'.cell? ⟨g, o + k * 7 + 1, none⟩ = some (.int .i64 x.s) ∧ w'.cell? ⟨g, o + k * 7 + 2, none⟩ = some (.string x.p) ∧ w'.cell? ⟨g, o + k * 7 + 3, none⟩ = some (.int .i64 x.k) ∧ w'.cell? ⟨g, o + k * 7 + 4, none⟩ = some (.int .i64 x.m) ∧ w'.cell? ⟨g, o + k * 7 + 5, none⟩ = some (.slice x.A x.l x.c) ∧ w'.cell? ⟨g, o + k * 7 + 6, none⟩ = some (.slice x.B x.bl x.bc)) ∧ (w'.cell? ⟨g2, o2 + k * 7, none⟩ = some (.int .i64 y.n) ∧ w'.cell? ⟨g2, o2 + k * 7 + 1, none⟩ = some (.int .i64 y.s) ∧ w'.cell? ⟨g2, o2 + k * 7 + 2, none⟩ = some (.string y.p) ∧ w'.cell? ⟨g2, o2 + k * 7 + 3, none⟩ = some (.int .i64 y.k) ∧ w'.cell? ⟨g2, o2 + k * 7 + 4, none⟩ = some (.int .i64 y.m) ∧ w'.cell? ⟨g2, o2 + k * 7 + 5, none⟩ = some (.slice y.A y.l y.c) ∧ w'.cell? ⟨g2, o2 + k * 7 + 6, none⟩ = some (.slice y.B y.bl y.bc))) w') := Lib.hid (fun w' hc => ⟨evCells (HA.out.chg hc (by simp)) ex, evCells (HB.out.chg hc (by simp)) ey⟩)
   have i1 : (k : Int) < (xs.length : Int) := by omega
   have i2 : (k : Int) < (ys.length : Int) := by omega
   have i3 : IntKind.i64.wrap ((k : Int) + 1) = (k : Int) + 1 := IntWalk.i64_in _ (by have := HN.out.1; omega)
   have RX := Lib.hid rx
   have RY := Lib.hid ry
   have EE := Lib.hid (And.intro ee ef)
   clear ex ey ee ef rx ry
   obtain ⟨⟨z0, z1, z2, z3, z4, z5, z6⟩, ⟨y0, y1, y2, y3, y4, y5, y6⟩⟩ := DX.out _ RC.out
   go_upto_region 6 with fail
   clear z0 z1 z2 z3 z4 z5 z6 y0 y1 y2 y3 y4 y5 y6
   refine wp_region_held_drew (S := fun w' => (w'.cell? ⟨g, o + k * 7, none⟩ = some (.int .i64 x.n) ∧ w'.cell? ⟨g, o + k * 7 + 1, none⟩ = some (.int .i64 x.s) ∧ w'.cell? ⟨g, o + k * 7 + 2, none⟩ = some (.string x.p) ∧ w'.cell? ⟨g, o + k * 7 + 3, none⟩ = some (.int .i64 x.k) ∧ w'.cell? ⟨g, o + k * 7 + 4, none⟩ = some (.int .i64 x.m) ∧ w'.cell? ⟨g, o + k * 7 + 5, none⟩ = some (.slice x.A x.l x.c) ∧ w'.cell? ⟨g, o + k * 7 + 6, none⟩ = some (.slice x.B x.bl x.bc)) ∧ (w'.cell? ⟨g2, o2 + k * 7, none⟩ = some (.int .i64 y.n) ∧ w'.cell? ⟨g2, o2 + k * 7 + 1, none⟩ = some (.int .i64 y.s) ∧ w'.cell? ⟨g2, o2 + k * 7 + 2, none⟩ = some (.string y.p) ∧ w'.cell? ⟨g2, o2 + k * 7 + 3, none⟩ = some (.int .i64 y.k) ∧ w'.cell? ⟨g2, o2 + k * 7 + 4, none⟩ = some (.int .i64 y.m) ∧ w'.cell? ⟨g2, o2 + k * 7 + 5, none⟩ = some (.slice y.A y.l y.c) ∧ w'.cell? ⟨g2, o2 + k * 7 + 6, none⟩ = some (.slice y.B y.bl y.bc))) (by kernel_rfl) (DX.out _ (RC.out.trans (Chg.refl [] wr).drew)) (fun hHeld => ?_)
   have C2 : Hid (Chg [] w wr.drew) := Lib.hid (RC.out.trans (Chg.refl [] wr).drew)
   clear hHeld RC
   generalize wr.drew = wc at *
   refine sy 0 17 rfl rfl ?_ (hS := (DX.out _ C2.out))
   try simp only [Act.put, sA, s0, s1]
   refine sy 1 18 rfl rfl ?_ (hS := (DX.out _ C2.out))
   try simp only [Act.put, sA, s0, s1]
   refine sy 2 19 rfl rfl ?_ (hS := (DX.out _ C2.out))
   try simp only [Act.put, sA, s0, s1]
   refine sy 3 20 rfl rfl ?_ (hS := (DX.out _ C2.out)) (hy := by (intro w hSw; (try dsimp only at hSw); obtain ⟨⟨q0, q1, q2, q3, q4, q5, q6⟩, ⟨p0, p1, p2, p3, p4, p5, p6⟩⟩ := hSw; go_simp; try with_reducible rfl))
   try simp only [Act.put, sA, s0, s1]
   refine sy 4 21 rfl rfl ?_ (hS := (DX.out _ C2.out))
   try simp only [Act.put, sA, s0, s1]
   refine sy 5 22 rfl rfl ?_ (hS := (DX.out _ C2.out))
   try simp only [Act.put, sA, s0, s1]
   refine sy 6 23 rfl rfl ?_ (hS := (DX.out _ C2.out))
   try simp only [Act.put, sA, s0, s1]
   refine sy 7 24 rfl rfl ?_ (hS := (DX.out _ C2.out)) (hy := by (intro w hSw; (try dsimp only at hSw); obtain ⟨⟨q0, q1, q2, q3, q4, q5, q6⟩, ⟨p0, p1, p2, p3, p4, p5, p6⟩⟩ := hSw; go_simp; try with_reducible rfl))
   try simp only [Act.put, sA, s0, s1]; refine wpAnyH_ready (rs := [8]) (by kernel_rfl) (by simp) ?_; refine AllReadyH.cons rfl (fun K hK => ?_) AllReadyH.nil; replace hK := Lib.hid hK; go_simp
   refine (sameev_any wc x y e f (RX.out.chg C2.out) (RY.out.chg C2.out) ⟨HQ.out.1 e (List.mem_of_getElem? EE.out.1), HQ.out.2 f (List.mem_of_getElem? EE.out.2)⟩).mono ?_
   rintro r wc ⟨rfl, hc⟩
   replace C2 := Lib.hid (C2.out.trans hc)
   clear hc
   generalize hs : sameP e f = sv
   refine hK.out _ _ (DX.out _ C2.out) (fun hHeld => ?_)
   clear hK K; try simp only [Act.put, sA, s0, s1]
   refine sy 9 26 rfl rfl ?_ (hS := (DX.out _ C2.out))
   try simp only [Act.put, sA, s0, s1]; refine wpAnyH_done (by kernel_rfl) ?_ _; clear hHeld
   rcases sv with _ | _
   ·
    obtain rfl : v = false := by rw [← HV.out]; exact sameL_no k e f EE.out.1 EE.out.2 hs
    clear hs HV; go_wp2; go_ret
    exact ⟨rfl, C2.out⟩
   ·
    have TN : Hid (∀ (j : Nat) (a b : EvP), j < k + 1 → es[j]? = some a → fs[j]? = some b → sameP a b = true) := Lib.hid (fun j a b hj ha hb => by
     by_cases q : j = k
     ·
      subst q
      rw [EE.out.1] at ha
      rw [EE.out.2] at hb
      cases ha; cases hb
      exact hs
     ·
      exact TK.out j a b (by omega) ha hb)
    clear hs; go_wp2; go_round
    case rel => exact ⟨k + 1, by omega, by go_num, TN, C2.out⟩
    case measure => simp [RowKit.intOf]; omega
  ·
   obtain rfl : k = xs.length := by omega
   have i1 : ¬ (xs.length : Int) < (xs.length : Int) := by omega
   obtain rfl : v = true := by
    rw [← HV.out]
    exact sameL_at (by rw [← HX.out.1, ← HY.out.1]; exact NE_.out) (fun j a b ha hb => TK.out j a b (by have := (List.getElem?_eq_some_iff.1 ha).1; rw [← HX.out.1] at this; exact this) ha hb)
   clear HV; go_wp2; go_ret
   exact ⟨rfl, RC.out⟩
end
end Go.Proofs.YtomgjogkkoigbaaGreatDoor
