/- The document's writer and reader, made since a world w. The document's effects: Check, Same, Less, Size, Bytes. The document's Check of an event. The document's Add. The document's Join. The document's Past. -/
import Derived.Test.YtgbidlhgmeglmaaGreatDoorZepl
import Derived.Test.YtgbidlhgmeglmaaGreatDoorZepq
import Derived.Test.YtgbidlhgmeglmaaGreatDoorZepf
import Derived.Test.YtgbidlhgmeglmaaGreatDoorZepc
import Derived.Deep.RegionHeld3
import Derived.Test.YtgbidlhgmeglmaaGreatDoorZepd
import Derived.Test.YtgbidlhgmeglmaaGreatDoorZepb
import Derived.Deep.Cut
import Derived.Test.YtgbidlhgmeglmaaGreatDoorZepg
namespace Go.Proofs.YtgbidlhgmeglmaaGreatDoor
section
open Go.RowKit

def Vs (w w' : World) (b : Nat) (xs : List UInt8) (e : Int) : Prop := ∃ g, VWr w' b g xs e ∧ w.heap.size ≤ b ∧ w.heap.size ≤ g ∧ Chg [] w w'
theorem Vs.chg {w w' : World} {b : Nat} {xs : List UInt8} {e : Int} (h : Vs w w' b xs e) : Chg [] w w' := by obtain ⟨_, _, _, _, h⟩ := h; exact h
theorem Vs.past {w w1 w2 : World} {b : Nat} {xs : List UInt8} {e : Int} (h : Vs w w1 b xs e) (hc : Chg [] w1 w2) : Vs w w2 b xs e := by
 obtain ⟨g, h1, h2, h3, h4⟩ := h
 exact ⟨g, h1.chg hc (by simp) (by simp), h2, h3, h4.trans hc⟩
def Us (w w' : World) (v : Nat) (A : Option Addr) (c : Nat) (xs : List UInt8) (p : Nat) (fe fa : Int) : Prop := URdr w' v A c xs p fe fa ∧ w.heap.size ≤ v ∧ Chg [] w w' ∧ Bs w A xs.length xs ∧ p ≤ xs.length ∧ xs.length ≤ 140737488351232
theorem Us.chg {w w' : World} {v : Nat} {A : Option Addr} {c : Nat} {xs : List UInt8} {p : Nat} {fe fa : Int} (h : Us w w' v A c xs p fe fa) : Chg [] w w' := h.2.2.1
theorem Us.past {w w1 w2 : World} {v : Nat} {A : Option Addr} {c : Nat} {xs : List UInt8} {p : Nat} {fe fa : Int} (h : Us w w1 v A c xs p fe fa) (hc : Chg [] w1 w2) : Us w w2 v A c xs p fe fa :=
 ⟨h.1.chg hc (by simp) (.inr (by simp)), h.2.1, h.2.2.1.trans hc, h.2.2.2⟩
end
section
open Go.RowKit

set_option maxHeartbeats 4000000 in
theorem fcheck_any (w : World) (k m : Int) (A : Option Addr) (n c : Nat) (hn : n ≤ 140737488351232) :
  Calls Tryz.prog 65 #[.agg #[.int .i64 k, .int .i64 m, .slice A n c]] w fun e w' => e = .returned (.int .i64 (chkE k m n)) ∧ Chg [] w w' := by
 have go : ∀ v, chkE k m n = v → Calls Tryz.prog 65 #[.agg #[.int .i64 k, .int .i64 m, .slice A n c]] w (fun e w' => e = .returned (.int .i64 v) ∧ Chg [] w w') → Calls Tryz.prog 65 #[.agg #[.int .i64 k, .int .i64 m, .slice A n c]] w fun e w' => e = .returned (.int .i64 (chkE k m n)) ∧ Chg [] w w' := fun v hv h => hv ▸ h
 by_cases h1 : k = 1
 ·
  subst h1
  by_cases m0 : m < 0
  ·
   refine go 2 (chkE_odd (by unfold Fine; omega)) ?_
   have m0' : ¬ 0 ≤ m := by omega
   clear go
   go_enter Tryz.func65, Tryz.ntmps65
   go_wp2
   go_ret
   exact ⟨rfl, (Chg.refl _ _).alloc _⟩
  have m0' : 0 ≤ m := by omega
  by_cases m1 : 511 < m
  ·
   refine go 2 (chkE_odd (by unfold Fine; omega)) ?_
   have m1' : ¬ m ≤ 511 := by omega
   clear go
   go_enter Tryz.func65, Tryz.ntmps65
   go_wp2
   go_ret
   exact ⟨rfl, (Chg.refl _ _).alloc _⟩
  have m1' : m ≤ 511 := by omega
  by_cases n1 : 1000 < n
  ·
   refine go 2 (chkE_odd (by unfold Fine; omega)) ?_
   have n1' : decide ((n : Int) ≤ 1000) = false := by simp; omega
   clear go
   go_enter Tryz.func65, Tryz.ntmps65
   go_wp2
   go_ret
   exact ⟨rfl, (Chg.refl _ _).alloc _⟩
  ·
   refine go 0 (chkE_fine (by unfold Fine; omega)) ?_
   have n1' : decide ((n : Int) ≤ 1000) = true := by simp; omega
   clear go
   go_enter Tryz.func65, Tryz.ntmps65
   go_wp2
   go_ret
   exact ⟨rfl, (Chg.refl _ _).alloc _⟩
 have h1' : (k == 1) = false := by simpa using h1
 by_cases h2 : k = 2
 ·
  subst h2
  by_cases m0 : m < 0
  ·
   refine go 2 (chkE_odd (by unfold Fine; omega)) ?_
   have m0' : ¬ 0 ≤ m := by omega
   clear go
   go_enter Tryz.func65, Tryz.ntmps65
   go_wp2
   go_ret
   exact ⟨rfl, (Chg.refl _ _).alloc _⟩
  have m0' : 0 ≤ m := by omega
  by_cases m1 : 511 < m
  ·
   refine go 2 (chkE_odd (by unfold Fine; omega)) ?_
   have m1' : ¬ m ≤ 511 := by omega
   clear go
   go_enter Tryz.func65, Tryz.ntmps65
   go_wp2
   go_ret
   exact ⟨rfl, (Chg.refl _ _).alloc _⟩
  have m1' : m ≤ 511 := by omega
  by_cases n1 : n = 0
  ·
   subst n1
   refine go 0 (chkE_fine (by unfold Fine; omega)) ?_
   clear go
   go_enter Tryz.func65, Tryz.ntmps65
   go_wp2
   go_ret
   exact ⟨rfl, (Chg.refl _ _).alloc _⟩
  ·
   refine go 2 (chkE_odd (by unfold Fine; omega)) ?_
   have n1' : ((n : Int) == 0) = false := by simp; omega
   clear go
   go_enter Tryz.func65, Tryz.ntmps65
   go_wp2
   go_ret
   exact ⟨rfl, (Chg.refl _ _).alloc _⟩
 have h2' : (k == 2) = false := by simpa using h2
 by_cases h3 : k = 3
 ·
  subst h3
  by_cases m0 : m = 0
  ·
   subst m0
   by_cases n1 : n = 0
   ·
    subst n1
    refine go 0 (chkE_fine (by unfold Fine; omega)) ?_
    clear go
    go_enter Tryz.func65, Tryz.ntmps65
    go_wp2
    go_ret
    exact ⟨rfl, (Chg.refl _ _).alloc _⟩
   ·
    refine go 2 (chkE_odd (by unfold Fine; omega)) ?_
    have n1' : ((n : Int) == 0) = false := by simp; omega
    clear go
    go_enter Tryz.func65, Tryz.ntmps65
    go_wp2
    go_ret
    exact ⟨rfl, (Chg.refl _ _).alloc _⟩
  ·
   refine go 2 (chkE_odd (by unfold Fine; omega)) ?_
   have m0' : (m == 0) = false := by simpa using m0
   clear go
   go_enter Tryz.func65, Tryz.ntmps65
   go_wp2
   go_ret
   exact ⟨rfl, (Chg.refl _ _).alloc _⟩
 have h3' : (k == 3) = false := by simpa using h3
 refine go 2 (chkE_odd (by unfold Fine; omega)) ?_
 clear go
 go_enter Tryz.func65, Tryz.ntmps65
 go_wp2
 go_ret
 exact ⟨rfl, (Chg.refl _ _).alloc _⟩
end
section
open Go.RowKit Go.Lib
set_option linter.unusedSimpArgs false
set_option linter.unusedVariables false


set_option maxRecDepth 100000 in
set_option maxHeartbeats 8000000 in
theorem vecheck_0 (w : World) (x : EvT) (e : EvP) (h : EvR w x e) (hs : EvSm e) (hk : ∀ i, i < 0 → evOk e i) (hn : ¬ evOk e 0) :
  Calls Tryz.prog 15 #[.agg #[.int .i64 x.n, .int .i64 x.s, .string x.p, .int .i64 x.k, .int .i64 x.m, .slice x.A x.l x.c, .slice x.B x.bl x.bc]] w fun r w' => r = .returned (.int .i64 2) ∧ Chg [] w w' := by
 obtain ⟨w1, hw1, c1, b1⟩ := news1 w (.cells #[.int .i64 x.n, .int .i64 x.s, .string x.p, .int .i64 x.k, .int .i64 x.m, .slice x.A x.l x.c, .slice x.B x.bl x.bc] 29)
 have W1 := Lib.hid hw1
 have HR := Lib.hid (h.chg c1)
 have C := Lib.hid c1
 have HS := Lib.hid hs
 have k0 : Hid (¬ evOk e 0) := Lib.hid hn
 have hxn := h.n
 have hxs := h.s
 have hxp := h.p
 have hxk := h.k
 have hxm := h.m
 have hxl := h.l
 have hxbl := h.bl
 rw [hxn, hxs, hxp, hxk, hxm, hxl, hxbl] at b1 W1
 rw [hxn, hxs, hxp, hxk, hxm, hxl, hxbl]
 clear hxn hxs hxp hxk hxm hxl hxbl
 have z0 := cell_of b1 0
 have z1 := cell_of b1 1
 have z2 := cell_of b1 2
 have z3 := cell_of b1 3
 have z4 := cell_of b1 4
 have z5 := cell_of b1 5
 have z6 := cell_of b1 6
 simp only [List.getElem?_toArray, List.getElem?_cons_succ, List.getElem?_cons_zero] at z0 z1 z2 z3 z4 z5 z6
 clear hw1 c1 h hs hk hn b1
 go_enter Tryz.func15, Tryz.ntmps15
 go_upto_region 1 with fail
 rw [← W1.out]
 generalize w.heap.size = g0 at *
 refine wp_region_held_drew (S := fun w' => w'.cell? ⟨g0, 0, none⟩ = some (.int .i64 e.n) ∧ w'.cell? ⟨g0, 1, none⟩ = some (.int .i64 e.s) ∧ w'.cell? ⟨g0, 2, none⟩ = some (.string (strOf e.p)) ∧ w'.cell? ⟨g0, 3, none⟩ = some (.int .i64 e.k) ∧ w'.cell? ⟨g0, 4, none⟩ = some (.int .i64 e.m) ∧ w'.cell? ⟨g0, 5, none⟩ = some (.slice x.A e.b.length x.c) ∧ w'.cell? ⟨g0, 6, none⟩ = some (.slice x.B e.q.length x.bc)) (by kernel_rfl) ⟨z0, z1, z2, z3, z4, z5, z6⟩ (fun hHeld => ?_)
 have CC : Hid (Chg [] w1 w1.drew) := Lib.hid (Chg.refl [] w1).drew
 have DX : Hid (∀ w', Chg [] w1 w' → w'.cell? ⟨g0, 0, none⟩ = some (.int .i64 e.n) ∧ w'.cell? ⟨g0, 1, none⟩ = some (.int .i64 e.s) ∧ w'.cell? ⟨g0, 2, none⟩ = some (.string (strOf e.p)) ∧ w'.cell? ⟨g0, 3, none⟩ = some (.int .i64 e.k) ∧ w'.cell? ⟨g0, 4, none⟩ = some (.int .i64 e.m) ∧ w'.cell? ⟨g0, 5, none⟩ = some (.slice x.A e.b.length x.c) ∧ w'.cell? ⟨g0, 6, none⟩ = some (.slice x.B e.q.length x.bc)) := Lib.hid (fun w' hc => ⟨hc.cell z0 (by simp), hc.cell z1 (by simp), hc.cell z2 (by simp), hc.cell z3 (by simp), hc.cell z4 (by simp), hc.cell z5 (by simp), hc.cell z6 (by simp)⟩)
 clear z0 z1 z2 z3 z4 z5 z6 hHeld W1
 generalize w1.drew = wc at *
 refine sy 0 3 rfl rfl ?_ (hS := (DX.out _ CC.out))
 try simp only [Act.put, sA, s0, s1]
 refine sy 1 4 rfl rfl ?_ (hS := (DX.out _ CC.out)) (hy := by (intro w hSw; (try dsimp only at hSw); obtain ⟨q0, q1, q2, q3, q4, q5, q6⟩ := hSw; go_simp; try with_reducible rfl))
 try simp only [Act.put, sA, s0, s1]
 refine wpAnyH_ready (rs := [2]) (by kernel_rfl) (by simp) ?_
 refine AllReadyH.cons rfl (fun K hK => ?_) AllReadyH.nil
 replace hK := Lib.hid hK
 go_simp
 refine (hcheck_dot wc e.n e.s).mono ?_
 rintro r wc ⟨rfl, hc⟩
 rw [chk_dot, if_neg (show ¬ FineQ e.n e.s from fun q => k0.out (chkD_fine q))]
 replace CC := Lib.hid (CC.out.trans hc)
 clear hc
 refine hK.out _ _ (DX.out _ CC.out) (fun hHeld => ?_)
 clear hK K
 try simp only [Act.put, sA, s0, s1]
 refine sy 3 6 rfl rfl ?_ (hS := (DX.out _ CC.out))
 try simp only [Act.put, sA, s0, s1]
 refine sy 4 7 rfl rfl ?_ (hS := (DX.out _ CC.out))
 try simp only [Act.put, sA, s0, s1]
 refine sn 5 8 rfl rfl ?_ (hS := (DX.out _ CC.out))
 try simp only [Act.put, sA, s0, s1]
 refine sn 6 9 rfl rfl ?_ (hS := (DX.out _ CC.out))
 try simp only [Act.put, sA, s0, s1]
 refine sn 7 10 rfl rfl ?_ (hS := (DX.out _ CC.out))
 try simp only [Act.put, sA, s0, s1]
 refine sn 8 11 rfl rfl ?_ (hS := (DX.out _ CC.out))
 try simp only [Act.put, sA, s0, s1]
 refine sy 9 12 rfl rfl ?_ (hS := (DX.out _ CC.out))
 try simp only [Act.put, sA, s0, s1]
 refine sy 10 13 rfl rfl ?_ (hS := (DX.out _ CC.out))
 try simp only [Act.put, sA, s0, s1]
 refine sn 11 14 rfl rfl ?_ (hS := (DX.out _ CC.out))
 try simp only [Act.put, sA, s0, s1]
 refine sn 12 15 rfl rfl ?_ (hS := (DX.out _ CC.out))
 try simp only [Act.put, sA, s0, s1]
 refine sn 13 16 rfl rfl ?_ (hS := (DX.out _ CC.out))
 try simp only [Act.put, sA, s0, s1]
 refine sn 14 17 rfl rfl ?_ (hS := (DX.out _ CC.out))
 try simp only [Act.put, sA, s0, s1]
 refine sy 15 18 rfl rfl ?_ (hS := (DX.out _ CC.out))
 try simp only [Act.put, sA, s0, s1]
 refine sy 16 19 rfl rfl ?_ (hS := (DX.out _ CC.out))
 try simp only [Act.put, sA, s0, s1]
 refine sn 17 20 rfl rfl ?_ (hS := (DX.out _ CC.out))
 try simp only [Act.put, sA, s0, s1]
 refine sn 18 21 rfl rfl ?_ (hS := (DX.out _ CC.out))
 try simp only [Act.put, sA, s0, s1]
 refine sn 19 22 rfl rfl ?_ (hS := (DX.out _ CC.out))
 try simp only [Act.put, sA, s0, s1]
 refine sn 20 23 rfl rfl ?_ (hS := (DX.out _ CC.out))
 try simp only [Act.put, sA, s0, s1]
 refine sy 21 24 rfl rfl ?_ (hS := (DX.out _ CC.out))
 try simp only [Act.put, sA, s0, s1]
 refine sy 22 25 rfl rfl ?_ (hS := (DX.out _ CC.out))
 try simp only [Act.put, sA, s0, s1]
 refine sn 23 26 rfl rfl ?_ (hS := (DX.out _ CC.out))
 try simp only [Act.put, sA, s0, s1]
 refine sn 24 27 rfl rfl ?_ (hS := (DX.out _ CC.out))
 try simp only [Act.put, sA, s0, s1]
 refine sn 25 28 rfl rfl ?_ (hS := (DX.out _ CC.out))
 try simp only [Act.put, sA, s0, s1]
 refine sn 26 29 rfl rfl ?_ (hS := (DX.out _ CC.out))
 try simp only [Act.put, sA, s0, s1]
 refine sn 27 30 rfl rfl ?_ (hS := (DX.out _ CC.out))
 try simp only [Act.put, sA, s0, s1]
 refine sn 28 31 rfl rfl ?_ (hS := (DX.out _ CC.out))
 try simp only [Act.put, sA, s0, s1]
 refine sn 29 32 rfl rfl ?_ (hS := (DX.out _ CC.out))
 try simp only [Act.put, sA, s0, s1]
 refine sn 30 33 rfl rfl ?_ (hS := (DX.out _ CC.out))
 try simp only [Act.put, sA, s0, s1]
 refine sn 31 34 rfl rfl ?_ (hS := (DX.out _ CC.out))
 try simp only [Act.put, sA, s0, s1]
 refine sn 32 35 rfl rfl ?_ (hS := (DX.out _ CC.out))
 try simp only [Act.put, sA, s0, s1]
 refine sy 33 36 rfl rfl ?_ (hS := (DX.out _ CC.out))
 try simp only [Act.put, sA, s0, s1]
 refine wpAnyH_done (by kernel_rfl) ?_ _
 clear hHeld
 go_wp2
 go_ret
 exact ⟨rfl, C.out.trans CC.out⟩

set_option maxRecDepth 100000 in
set_option maxHeartbeats 8000000 in
theorem vecheck_1 (w : World) (x : EvT) (e : EvP) (h : EvR w x e) (hs : EvSm e) (hk : ∀ i, i < 1 → evOk e i) (hn : ¬ evOk e 1) :
  Calls Tryz.prog 15 #[.agg #[.int .i64 x.n, .int .i64 x.s, .string x.p, .int .i64 x.k, .int .i64 x.m, .slice x.A x.l x.c, .slice x.B x.bl x.bc]] w fun r w' => r = .returned (.int .i64 2) ∧ Chg [] w w' := by
 obtain ⟨w1, hw1, c1, b1⟩ := news1 w (.cells #[.int .i64 x.n, .int .i64 x.s, .string x.p, .int .i64 x.k, .int .i64 x.m, .slice x.A x.l x.c, .slice x.B x.bl x.bc] 29)
 have W1 := Lib.hid hw1
 have HR := Lib.hid (h.chg c1)
 have C := Lib.hid c1
 have HS := Lib.hid hs
 have k0 : Hid (evOk e 0) := Lib.hid (hk 0 (by omega))
 have k1 : Hid (¬ evOk e 1) := Lib.hid hn
 have hxn := h.n
 have hxs := h.s
 have hxp := h.p
 have hxk := h.k
 have hxm := h.m
 have hxl := h.l
 have hxbl := h.bl
 rw [hxn, hxs, hxp, hxk, hxm, hxl, hxbl] at b1 W1
 rw [hxn, hxs, hxp, hxk, hxm, hxl, hxbl]
 clear hxn hxs hxp hxk hxm hxl hxbl
 have z0 := cell_of b1 0
 have z1 := cell_of b1 1
 have z2 := cell_of b1 2
 have z3 := cell_of b1 3
 have z4 := cell_of b1 4
 have z5 := cell_of b1 5
 have z6 := cell_of b1 6
 simp only [List.getElem?_toArray, List.getElem?_cons_succ, List.getElem?_cons_zero] at z0 z1 z2 z3 z4 z5 z6
 clear hw1 c1 h hs hk hn b1
 go_enter Tryz.func15, Tryz.ntmps15
 go_upto_region 1 with fail
 rw [← W1.out]
 generalize w.heap.size = g0 at *
 refine wp_region_held_drew (S := fun w' => w'.cell? ⟨g0, 0, none⟩ = some (.int .i64 e.n) ∧ w'.cell? ⟨g0, 1, none⟩ = some (.int .i64 e.s) ∧ w'.cell? ⟨g0, 2, none⟩ = some (.string (strOf e.p)) ∧ w'.cell? ⟨g0, 3, none⟩ = some (.int .i64 e.k) ∧ w'.cell? ⟨g0, 4, none⟩ = some (.int .i64 e.m) ∧ w'.cell? ⟨g0, 5, none⟩ = some (.slice x.A e.b.length x.c) ∧ w'.cell? ⟨g0, 6, none⟩ = some (.slice x.B e.q.length x.bc)) (by kernel_rfl) ⟨z0, z1, z2, z3, z4, z5, z6⟩ (fun hHeld => ?_)
 have CC : Hid (Chg [] w1 w1.drew) := Lib.hid (Chg.refl [] w1).drew
 have DX : Hid (∀ w', Chg [] w1 w' → w'.cell? ⟨g0, 0, none⟩ = some (.int .i64 e.n) ∧ w'.cell? ⟨g0, 1, none⟩ = some (.int .i64 e.s) ∧ w'.cell? ⟨g0, 2, none⟩ = some (.string (strOf e.p)) ∧ w'.cell? ⟨g0, 3, none⟩ = some (.int .i64 e.k) ∧ w'.cell? ⟨g0, 4, none⟩ = some (.int .i64 e.m) ∧ w'.cell? ⟨g0, 5, none⟩ = some (.slice x.A e.b.length x.c) ∧ w'.cell? ⟨g0, 6, none⟩ = some (.slice x.B e.q.length x.bc)) := Lib.hid (fun w' hc => ⟨hc.cell z0 (by simp), hc.cell z1 (by simp), hc.cell z2 (by simp), hc.cell z3 (by simp), hc.cell z4 (by simp), hc.cell z5 (by simp), hc.cell z6 (by simp)⟩)
 clear z0 z1 z2 z3 z4 z5 z6 hHeld W1
 generalize w1.drew = wc at *
 refine sy 0 3 rfl rfl ?_ (hS := (DX.out _ CC.out))
 try simp only [Act.put, sA, s0, s1]
 refine sy 1 4 rfl rfl ?_ (hS := (DX.out _ CC.out)) (hy := by (intro w hSw; (try dsimp only at hSw); obtain ⟨q0, q1, q2, q3, q4, q5, q6⟩ := hSw; go_simp; try with_reducible rfl))
 try simp only [Act.put, sA, s0, s1]
 refine wpAnyH_ready (rs := [2]) (by kernel_rfl) (by simp) ?_
 refine AllReadyH.cons rfl (fun K hK => ?_) AllReadyH.nil
 replace hK := Lib.hid hK
 go_simp
 refine (hcheck_dot wc e.n e.s).mono ?_
 rintro r wc ⟨rfl, hc⟩
 rw [chk_dot, if_pos (show FineQ e.n e.s from Decidable.byContradiction (fun q => absurd k0.out (by show ¬ chkD e.n e.s = 0; rw [chkD_odd q]; decide)))]
 replace CC := Lib.hid (CC.out.trans hc)
 clear hc
 refine hK.out _ _ (DX.out _ CC.out) (fun hHeld => ?_)
 clear hK K
 try simp only [Act.put, sA, s0, s1]
 refine sy 3 6 rfl rfl ?_ (hS := (DX.out _ CC.out))
 try simp only [Act.put, sA, s0, s1]
 refine sy 4 7 rfl rfl ?_ (hS := (DX.out _ CC.out))
 try simp only [Act.put, sA, s0, s1]
 refine sy 5 8 rfl rfl ?_ (hS := (DX.out _ CC.out))
 try simp only [Act.put, sA, s0, s1]
 refine sy 6 9 rfl rfl ?_ (hS := (DX.out _ CC.out)) (hy := by (intro w hSw; (try dsimp only at hSw); obtain ⟨q0, q1, q2, q3, q4, q5, q6⟩ := hSw; go_simp; try with_reducible rfl))
 try simp only [Act.put, sA, s0, s1]
 refine wpAnyH_ready (rs := [7]) (by kernel_rfl) (by simp) ?_
 refine AllReadyH.cons rfl (fun K hK => ?_) AllReadyH.nil
 replace hK := Lib.hid hK
 go_simp
 refine (qcheck_any wc e.p HS.out.1).mono ?_
 rintro r wc ⟨rfl, hc⟩
 rw [if_neg (show ¬ checkL 6 12 e.p = true from k1.out)]
 replace CC := Lib.hid (CC.out.trans hc)
 clear hc
 refine hK.out _ _ (DX.out _ CC.out) (fun hHeld => ?_)
 clear hK K
 try simp only [Act.put, sA, s0, s1]
 refine sy 8 11 rfl rfl ?_ (hS := (DX.out _ CC.out))
 try simp only [Act.put, sA, s0, s1]
 refine sy 9 12 rfl rfl ?_ (hS := (DX.out _ CC.out))
 try simp only [Act.put, sA, s0, s1]
 refine sy 10 13 rfl rfl ?_ (hS := (DX.out _ CC.out))
 try simp only [Act.put, sA, s0, s1]
 refine sn 11 14 rfl rfl ?_ (hS := (DX.out _ CC.out))
 try simp only [Act.put, sA, s0, s1]
 refine sn 12 15 rfl rfl ?_ (hS := (DX.out _ CC.out))
 try simp only [Act.put, sA, s0, s1]
 refine sn 13 16 rfl rfl ?_ (hS := (DX.out _ CC.out))
 try simp only [Act.put, sA, s0, s1]
 refine sn 14 17 rfl rfl ?_ (hS := (DX.out _ CC.out))
 try simp only [Act.put, sA, s0, s1]
 refine sy 15 18 rfl rfl ?_ (hS := (DX.out _ CC.out))
 try simp only [Act.put, sA, s0, s1]
 refine sy 16 19 rfl rfl ?_ (hS := (DX.out _ CC.out))
 try simp only [Act.put, sA, s0, s1]
 refine sn 17 20 rfl rfl ?_ (hS := (DX.out _ CC.out))
 try simp only [Act.put, sA, s0, s1]
 refine sn 18 21 rfl rfl ?_ (hS := (DX.out _ CC.out))
 try simp only [Act.put, sA, s0, s1]
 refine sn 19 22 rfl rfl ?_ (hS := (DX.out _ CC.out))
 try simp only [Act.put, sA, s0, s1]
 refine sn 20 23 rfl rfl ?_ (hS := (DX.out _ CC.out))
 try simp only [Act.put, sA, s0, s1]
 refine sy 21 24 rfl rfl ?_ (hS := (DX.out _ CC.out))
 try simp only [Act.put, sA, s0, s1]
 refine sy 22 25 rfl rfl ?_ (hS := (DX.out _ CC.out))
 try simp only [Act.put, sA, s0, s1]
 refine sn 23 26 rfl rfl ?_ (hS := (DX.out _ CC.out))
 try simp only [Act.put, sA, s0, s1]
 refine sn 24 27 rfl rfl ?_ (hS := (DX.out _ CC.out))
 try simp only [Act.put, sA, s0, s1]
 refine sn 25 28 rfl rfl ?_ (hS := (DX.out _ CC.out))
 try simp only [Act.put, sA, s0, s1]
 refine sn 26 29 rfl rfl ?_ (hS := (DX.out _ CC.out))
 try simp only [Act.put, sA, s0, s1]
 refine sn 27 30 rfl rfl ?_ (hS := (DX.out _ CC.out))
 try simp only [Act.put, sA, s0, s1]
 refine sn 28 31 rfl rfl ?_ (hS := (DX.out _ CC.out))
 try simp only [Act.put, sA, s0, s1]
 refine sn 29 32 rfl rfl ?_ (hS := (DX.out _ CC.out))
 try simp only [Act.put, sA, s0, s1]
 refine sn 30 33 rfl rfl ?_ (hS := (DX.out _ CC.out))
 try simp only [Act.put, sA, s0, s1]
 refine sn 31 34 rfl rfl ?_ (hS := (DX.out _ CC.out))
 try simp only [Act.put, sA, s0, s1]
 refine sn 32 35 rfl rfl ?_ (hS := (DX.out _ CC.out))
 try simp only [Act.put, sA, s0, s1]
 refine sy 33 36 rfl rfl ?_ (hS := (DX.out _ CC.out))
 try simp only [Act.put, sA, s0, s1]
 refine wpAnyH_done (by kernel_rfl) ?_ _
 clear hHeld
 go_wp2
 go_ret
 exact ⟨rfl, C.out.trans CC.out⟩

set_option maxRecDepth 100000 in
set_option maxHeartbeats 8000000 in
theorem vecheck_2 (w : World) (x : EvT) (e : EvP) (h : EvR w x e) (hs : EvSm e) (hk : ∀ i, i < 2 → evOk e i) (hn : ¬ evOk e 2) :
  Calls Tryz.prog 15 #[.agg #[.int .i64 x.n, .int .i64 x.s, .string x.p, .int .i64 x.k, .int .i64 x.m, .slice x.A x.l x.c, .slice x.B x.bl x.bc]] w fun r w' => r = .returned (.int .i64 2) ∧ Chg [] w w' := by
 obtain ⟨w1, hw1, c1, b1⟩ := news1 w (.cells #[.int .i64 x.n, .int .i64 x.s, .string x.p, .int .i64 x.k, .int .i64 x.m, .slice x.A x.l x.c, .slice x.B x.bl x.bc] 29)
 have W1 := Lib.hid hw1
 have HR := Lib.hid (h.chg c1)
 have C := Lib.hid c1
 have HS := Lib.hid hs
 have k0 : Hid (evOk e 0) := Lib.hid (hk 0 (by omega))
 have k1 : Hid (evOk e 1) := Lib.hid (hk 1 (by omega))
 have k2 : Hid (¬ evOk e 2) := Lib.hid hn
 have hxn := h.n
 have hxs := h.s
 have hxp := h.p
 have hxk := h.k
 have hxm := h.m
 have hxl := h.l
 have hxbl := h.bl
 rw [hxn, hxs, hxp, hxk, hxm, hxl, hxbl] at b1 W1
 rw [hxn, hxs, hxp, hxk, hxm, hxl, hxbl]
 clear hxn hxs hxp hxk hxm hxl hxbl
 have z0 := cell_of b1 0
 have z1 := cell_of b1 1
 have z2 := cell_of b1 2
 have z3 := cell_of b1 3
 have z4 := cell_of b1 4
 have z5 := cell_of b1 5
 have z6 := cell_of b1 6
 simp only [List.getElem?_toArray, List.getElem?_cons_succ, List.getElem?_cons_zero] at z0 z1 z2 z3 z4 z5 z6
 clear hw1 c1 h hs hk hn b1
 go_enter Tryz.func15, Tryz.ntmps15
 go_upto_region 1 with fail
 rw [← W1.out]
 generalize w.heap.size = g0 at *
 refine wp_region_held_drew (S := fun w' => w'.cell? ⟨g0, 0, none⟩ = some (.int .i64 e.n) ∧ w'.cell? ⟨g0, 1, none⟩ = some (.int .i64 e.s) ∧ w'.cell? ⟨g0, 2, none⟩ = some (.string (strOf e.p)) ∧ w'.cell? ⟨g0, 3, none⟩ = some (.int .i64 e.k) ∧ w'.cell? ⟨g0, 4, none⟩ = some (.int .i64 e.m) ∧ w'.cell? ⟨g0, 5, none⟩ = some (.slice x.A e.b.length x.c) ∧ w'.cell? ⟨g0, 6, none⟩ = some (.slice x.B e.q.length x.bc)) (by kernel_rfl) ⟨z0, z1, z2, z3, z4, z5, z6⟩ (fun hHeld => ?_)
 have CC : Hid (Chg [] w1 w1.drew) := Lib.hid (Chg.refl [] w1).drew
 have DX : Hid (∀ w', Chg [] w1 w' → w'.cell? ⟨g0, 0, none⟩ = some (.int .i64 e.n) ∧ w'.cell? ⟨g0, 1, none⟩ = some (.int .i64 e.s) ∧ w'.cell? ⟨g0, 2, none⟩ = some (.string (strOf e.p)) ∧ w'.cell? ⟨g0, 3, none⟩ = some (.int .i64 e.k) ∧ w'.cell? ⟨g0, 4, none⟩ = some (.int .i64 e.m) ∧ w'.cell? ⟨g0, 5, none⟩ = some (.slice x.A e.b.length x.c) ∧ w'.cell? ⟨g0, 6, none⟩ = some (.slice x.B e.q.length x.bc)) := Lib.hid (fun w' hc => ⟨hc.cell z0 (by simp), hc.cell z1 (by simp), hc.cell z2 (by simp), hc.cell z3 (by simp), hc.cell z4 (by simp), hc.cell z5 (by simp), hc.cell z6 (by simp)⟩)
 clear z0 z1 z2 z3 z4 z5 z6 hHeld W1
 generalize w1.drew = wc at *
 refine sy 0 3 rfl rfl ?_ (hS := (DX.out _ CC.out))
 try simp only [Act.put, sA, s0, s1]
 refine sy 1 4 rfl rfl ?_ (hS := (DX.out _ CC.out)) (hy := by (intro w hSw; (try dsimp only at hSw); obtain ⟨q0, q1, q2, q3, q4, q5, q6⟩ := hSw; go_simp; try with_reducible rfl))
 try simp only [Act.put, sA, s0, s1]
 refine wpAnyH_ready (rs := [2]) (by kernel_rfl) (by simp) ?_
 refine AllReadyH.cons rfl (fun K hK => ?_) AllReadyH.nil
 replace hK := Lib.hid hK
 go_simp
 refine (hcheck_dot wc e.n e.s).mono ?_
 rintro r wc ⟨rfl, hc⟩
 rw [chk_dot, if_pos (show FineQ e.n e.s from Decidable.byContradiction (fun q => absurd k0.out (by show ¬ chkD e.n e.s = 0; rw [chkD_odd q]; decide)))]
 replace CC := Lib.hid (CC.out.trans hc)
 clear hc
 refine hK.out _ _ (DX.out _ CC.out) (fun hHeld => ?_)
 clear hK K
 try simp only [Act.put, sA, s0, s1]
 refine sy 3 6 rfl rfl ?_ (hS := (DX.out _ CC.out))
 try simp only [Act.put, sA, s0, s1]
 refine sy 4 7 rfl rfl ?_ (hS := (DX.out _ CC.out))
 try simp only [Act.put, sA, s0, s1]
 refine sy 5 8 rfl rfl ?_ (hS := (DX.out _ CC.out))
 try simp only [Act.put, sA, s0, s1]
 refine sy 6 9 rfl rfl ?_ (hS := (DX.out _ CC.out)) (hy := by (intro w hSw; (try dsimp only at hSw); obtain ⟨q0, q1, q2, q3, q4, q5, q6⟩ := hSw; go_simp; try with_reducible rfl))
 try simp only [Act.put, sA, s0, s1]
 refine wpAnyH_ready (rs := [7]) (by kernel_rfl) (by simp) ?_
 refine AllReadyH.cons rfl (fun K hK => ?_) AllReadyH.nil
 replace hK := Lib.hid hK
 go_simp
 refine (qcheck_any wc e.p HS.out.1).mono ?_
 rintro r wc ⟨rfl, hc⟩
 rw [if_pos (show checkL 6 12 e.p = true from k1.out)]
 replace CC := Lib.hid (CC.out.trans hc)
 clear hc
 refine hK.out _ _ (DX.out _ CC.out) (fun hHeld => ?_)
 clear hK K
 try simp only [Act.put, sA, s0, s1]
 refine sy 8 11 rfl rfl ?_ (hS := (DX.out _ CC.out))
 try simp only [Act.put, sA, s0, s1]
 refine sy 9 12 rfl rfl ?_ (hS := (DX.out _ CC.out))
 try simp only [Act.put, sA, s0, s1]
 refine sy 10 13 rfl rfl ?_ (hS := (DX.out _ CC.out))
 try simp only [Act.put, sA, s0, s1]
 refine sy 11 14 rfl rfl ?_ (hS := (DX.out _ CC.out))
 try simp only [Act.put, sA, s0, s1]
 refine sy 12 15 rfl rfl ?_ (hS := (DX.out _ CC.out)) (hy := by (intro w hSw; (try dsimp only at hSw); obtain ⟨q0, q1, q2, q3, q4, q5, q6⟩ := hSw; go_simp; try with_reducible rfl))
 try simp only [Act.put, sA, s0, s1]
 refine wpAnyH_ready (rs := [13]) (by kernel_rfl) (by simp) ?_
 refine AllReadyH.cons rfl (fun K hK => ?_) AllReadyH.nil
 replace hK := Lib.hid hK
 go_simp
 refine (fcheck_any wc e.k e.m x.A e.b.length x.c HS.out.2.1).mono ?_
 rintro r wc ⟨rfl, hc⟩
 rw [show chkE e.k e.m e.b.length = 2 by unfold chkE; rw [if_neg]; exact fun q => k2.out (chkE_fine q)]
 replace CC := Lib.hid (CC.out.trans hc)
 clear hc
 refine hK.out _ _ (DX.out _ CC.out) (fun hHeld => ?_)
 clear hK K
 try simp only [Act.put, sA, s0, s1]
 refine sy 14 17 rfl rfl ?_ (hS := (DX.out _ CC.out))
 try simp only [Act.put, sA, s0, s1]
 refine sy 15 18 rfl rfl ?_ (hS := (DX.out _ CC.out))
 try simp only [Act.put, sA, s0, s1]
 refine sy 16 19 rfl rfl ?_ (hS := (DX.out _ CC.out))
 try simp only [Act.put, sA, s0, s1]
 refine sn 17 20 rfl rfl ?_ (hS := (DX.out _ CC.out))
 try simp only [Act.put, sA, s0, s1]
 refine sn 18 21 rfl rfl ?_ (hS := (DX.out _ CC.out))
 try simp only [Act.put, sA, s0, s1]
 refine sn 19 22 rfl rfl ?_ (hS := (DX.out _ CC.out))
 try simp only [Act.put, sA, s0, s1]
 refine sn 20 23 rfl rfl ?_ (hS := (DX.out _ CC.out))
 try simp only [Act.put, sA, s0, s1]
 refine sy 21 24 rfl rfl ?_ (hS := (DX.out _ CC.out))
 try simp only [Act.put, sA, s0, s1]
 refine sy 22 25 rfl rfl ?_ (hS := (DX.out _ CC.out))
 try simp only [Act.put, sA, s0, s1]
 refine sn 23 26 rfl rfl ?_ (hS := (DX.out _ CC.out))
 try simp only [Act.put, sA, s0, s1]
 refine sn 24 27 rfl rfl ?_ (hS := (DX.out _ CC.out))
 try simp only [Act.put, sA, s0, s1]
 refine sn 25 28 rfl rfl ?_ (hS := (DX.out _ CC.out))
 try simp only [Act.put, sA, s0, s1]
 refine sn 26 29 rfl rfl ?_ (hS := (DX.out _ CC.out))
 try simp only [Act.put, sA, s0, s1]
 refine sn 27 30 rfl rfl ?_ (hS := (DX.out _ CC.out))
 try simp only [Act.put, sA, s0, s1]
 refine sn 28 31 rfl rfl ?_ (hS := (DX.out _ CC.out))
 try simp only [Act.put, sA, s0, s1]
 refine sn 29 32 rfl rfl ?_ (hS := (DX.out _ CC.out))
 try simp only [Act.put, sA, s0, s1]
 refine sn 30 33 rfl rfl ?_ (hS := (DX.out _ CC.out))
 try simp only [Act.put, sA, s0, s1]
 refine sn 31 34 rfl rfl ?_ (hS := (DX.out _ CC.out))
 try simp only [Act.put, sA, s0, s1]
 refine sn 32 35 rfl rfl ?_ (hS := (DX.out _ CC.out))
 try simp only [Act.put, sA, s0, s1]
 refine sy 33 36 rfl rfl ?_ (hS := (DX.out _ CC.out))
 try simp only [Act.put, sA, s0, s1]
 refine wpAnyH_done (by kernel_rfl) ?_ _
 clear hHeld
 go_wp2
 go_ret
 exact ⟨rfl, C.out.trans CC.out⟩

set_option maxRecDepth 100000 in
set_option maxHeartbeats 8000000 in
theorem vecheck_3 (w : World) (x : EvT) (e : EvP) (h : EvR w x e) (hs : EvSm e) (hk : ∀ i, i < 3 → evOk e i) (hn : ¬ evOk e 3) :
  Calls Tryz.prog 15 #[.agg #[.int .i64 x.n, .int .i64 x.s, .string x.p, .int .i64 x.k, .int .i64 x.m, .slice x.A x.l x.c, .slice x.B x.bl x.bc]] w fun r w' => r = .returned (.int .i64 2) ∧ Chg [] w w' := by
 obtain ⟨w1, hw1, c1, b1⟩ := news1 w (.cells #[.int .i64 x.n, .int .i64 x.s, .string x.p, .int .i64 x.k, .int .i64 x.m, .slice x.A x.l x.c, .slice x.B x.bl x.bc] 29)
 have W1 := Lib.hid hw1
 have HR := Lib.hid (h.chg c1)
 have C := Lib.hid c1
 have HS := Lib.hid hs
 have k0 : Hid (evOk e 0) := Lib.hid (hk 0 (by omega))
 have k1 : Hid (evOk e 1) := Lib.hid (hk 1 (by omega))
 have k2 : Hid (evOk e 2) := Lib.hid (hk 2 (by omega))
 have k3 : Hid (¬ evOk e 3) := Lib.hid hn
 have hxn := h.n
 have hxs := h.s
 have hxp := h.p
 have hxk := h.k
 have hxm := h.m
 have hxl := h.l
 have hxbl := h.bl
 rw [hxn, hxs, hxp, hxk, hxm, hxl, hxbl] at b1 W1
 rw [hxn, hxs, hxp, hxk, hxm, hxl, hxbl]
 clear hxn hxs hxp hxk hxm hxl hxbl
 have z0 := cell_of b1 0
 have z1 := cell_of b1 1
 have z2 := cell_of b1 2
 have z3 := cell_of b1 3
 have z4 := cell_of b1 4
 have z5 := cell_of b1 5
 have z6 := cell_of b1 6
 simp only [List.getElem?_toArray, List.getElem?_cons_succ, List.getElem?_cons_zero] at z0 z1 z2 z3 z4 z5 z6
 clear hw1 c1 h hs hk hn b1
 go_enter Tryz.func15, Tryz.ntmps15
 go_upto_region 1 with fail
 rw [← W1.out]
 generalize w.heap.size = g0 at *
 refine wp_region_held_drew (S := fun w' => w'.cell? ⟨g0, 0, none⟩ = some (.int .i64 e.n) ∧ w'.cell? ⟨g0, 1, none⟩ = some (.int .i64 e.s) ∧ w'.cell? ⟨g0, 2, none⟩ = some (.string (strOf e.p)) ∧ w'.cell? ⟨g0, 3, none⟩ = some (.int .i64 e.k) ∧ w'.cell? ⟨g0, 4, none⟩ = some (.int .i64 e.m) ∧ w'.cell? ⟨g0, 5, none⟩ = some (.slice x.A e.b.length x.c) ∧ w'.cell? ⟨g0, 6, none⟩ = some (.slice x.B e.q.length x.bc)) (by kernel_rfl) ⟨z0, z1, z2, z3, z4, z5, z6⟩ (fun hHeld => ?_)
 have CC : Hid (Chg [] w1 w1.drew) := Lib.hid (Chg.refl [] w1).drew
 have DX : Hid (∀ w', Chg [] w1 w' → w'.cell? ⟨g0, 0, none⟩ = some (.int .i64 e.n) ∧ w'.cell? ⟨g0, 1, none⟩ = some (.int .i64 e.s) ∧ w'.cell? ⟨g0, 2, none⟩ = some (.string (strOf e.p)) ∧ w'.cell? ⟨g0, 3, none⟩ = some (.int .i64 e.k) ∧ w'.cell? ⟨g0, 4, none⟩ = some (.int .i64 e.m) ∧ w'.cell? ⟨g0, 5, none⟩ = some (.slice x.A e.b.length x.c) ∧ w'.cell? ⟨g0, 6, none⟩ = some (.slice x.B e.q.length x.bc)) := Lib.hid (fun w' hc => ⟨hc.cell z0 (by simp), hc.cell z1 (by simp), hc.cell z2 (by simp), hc.cell z3 (by simp), hc.cell z4 (by simp), hc.cell z5 (by simp), hc.cell z6 (by simp)⟩)
 clear z0 z1 z2 z3 z4 z5 z6 hHeld W1
 generalize w1.drew = wc at *
 refine sy 0 3 rfl rfl ?_ (hS := (DX.out _ CC.out))
 try simp only [Act.put, sA, s0, s1]
 refine sy 1 4 rfl rfl ?_ (hS := (DX.out _ CC.out)) (hy := by (intro w hSw; (try dsimp only at hSw); obtain ⟨q0, q1, q2, q3, q4, q5, q6⟩ := hSw; go_simp; try with_reducible rfl))
 try simp only [Act.put, sA, s0, s1]
 refine wpAnyH_ready (rs := [2]) (by kernel_rfl) (by simp) ?_
 refine AllReadyH.cons rfl (fun K hK => ?_) AllReadyH.nil
 replace hK := Lib.hid hK
 go_simp
 refine (hcheck_dot wc e.n e.s).mono ?_
 rintro r wc ⟨rfl, hc⟩
 rw [chk_dot, if_pos (show FineQ e.n e.s from Decidable.byContradiction (fun q => absurd k0.out (by show ¬ chkD e.n e.s = 0; rw [chkD_odd q]; decide)))]
 replace CC := Lib.hid (CC.out.trans hc)
 clear hc
 refine hK.out _ _ (DX.out _ CC.out) (fun hHeld => ?_)
 clear hK K
 try simp only [Act.put, sA, s0, s1]
 refine sy 3 6 rfl rfl ?_ (hS := (DX.out _ CC.out))
 try simp only [Act.put, sA, s0, s1]
 refine sy 4 7 rfl rfl ?_ (hS := (DX.out _ CC.out))
 try simp only [Act.put, sA, s0, s1]
 refine sy 5 8 rfl rfl ?_ (hS := (DX.out _ CC.out))
 try simp only [Act.put, sA, s0, s1]
 refine sy 6 9 rfl rfl ?_ (hS := (DX.out _ CC.out)) (hy := by (intro w hSw; (try dsimp only at hSw); obtain ⟨q0, q1, q2, q3, q4, q5, q6⟩ := hSw; go_simp; try with_reducible rfl))
 try simp only [Act.put, sA, s0, s1]
 refine wpAnyH_ready (rs := [7]) (by kernel_rfl) (by simp) ?_
 refine AllReadyH.cons rfl (fun K hK => ?_) AllReadyH.nil
 replace hK := Lib.hid hK
 go_simp
 refine (qcheck_any wc e.p HS.out.1).mono ?_
 rintro r wc ⟨rfl, hc⟩
 rw [if_pos (show checkL 6 12 e.p = true from k1.out)]
 replace CC := Lib.hid (CC.out.trans hc)
 clear hc
 refine hK.out _ _ (DX.out _ CC.out) (fun hHeld => ?_)
 clear hK K
 try simp only [Act.put, sA, s0, s1]
 refine sy 8 11 rfl rfl ?_ (hS := (DX.out _ CC.out))
 try simp only [Act.put, sA, s0, s1]
 refine sy 9 12 rfl rfl ?_ (hS := (DX.out _ CC.out))
 try simp only [Act.put, sA, s0, s1]
 refine sy 10 13 rfl rfl ?_ (hS := (DX.out _ CC.out))
 try simp only [Act.put, sA, s0, s1]
 refine sy 11 14 rfl rfl ?_ (hS := (DX.out _ CC.out))
 try simp only [Act.put, sA, s0, s1]
 refine sy 12 15 rfl rfl ?_ (hS := (DX.out _ CC.out)) (hy := by (intro w hSw; (try dsimp only at hSw); obtain ⟨q0, q1, q2, q3, q4, q5, q6⟩ := hSw; go_simp; try with_reducible rfl))
 try simp only [Act.put, sA, s0, s1]
 refine wpAnyH_ready (rs := [13]) (by kernel_rfl) (by simp) ?_
 refine AllReadyH.cons rfl (fun K hK => ?_) AllReadyH.nil
 replace hK := Lib.hid hK
 go_simp
 refine (fcheck_any wc e.k e.m x.A e.b.length x.c HS.out.2.1).mono ?_
 rintro r wc ⟨rfl, hc⟩
 rw [show chkE e.k e.m e.b.length = 0 from k2.out]
 replace CC := Lib.hid (CC.out.trans hc)
 clear hc
 refine hK.out _ _ (DX.out _ CC.out) (fun hHeld => ?_)
 clear hK K
 try simp only [Act.put, sA, s0, s1]
 refine sy 14 17 rfl rfl ?_ (hS := (DX.out _ CC.out))
 try simp only [Act.put, sA, s0, s1]
 refine sy 15 18 rfl rfl ?_ (hS := (DX.out _ CC.out))
 try simp only [Act.put, sA, s0, s1]
 refine sy 16 19 rfl rfl ?_ (hS := (DX.out _ CC.out))
 try simp only [Act.put, sA, s0, s1]
 refine sy 17 20 rfl rfl ?_ (hS := (DX.out _ CC.out))
 try simp only [Act.put, sA, s0, s1]
 refine sy 18 21 rfl rfl ?_ (hS := (DX.out _ CC.out)) (hy := by (intro w hSw; (try dsimp only at hSw); obtain ⟨q0, q1, q2, q3, q4, q5, q6⟩ := hSw; go_simp; try with_reducible rfl))
 try simp only [Act.put, sA, s0, s1]
 refine wpAnyH_ready (rs := [19]) (by kernel_rfl) (by simp) ?_
 refine AllReadyH.cons rfl (fun K hK => ?_) AllReadyH.nil
 replace hK := Lib.hid hK
 go_simp
 refine (qacheck_any wc x.B e.q.length x.bc e.q (by have := HR.out.B.chg CC.out (by simp); rw [HR.out.bl] at this; exact this) HS.out.2.2).mono ?_
 rintro r wc ⟨rfl, hc⟩
 rw [show chkS e.q = 2 from (chk_two e.q).resolve_left k3.out]
 replace CC := Lib.hid (CC.out.trans hc)
 clear hc
 refine hK.out _ _ (DX.out _ CC.out) (fun hHeld => ?_)
 clear hK K
 try simp only [Act.put, sA, s0, s1]
 refine sy 20 23 rfl rfl ?_ (hS := (DX.out _ CC.out))
 try simp only [Act.put, sA, s0, s1]
 refine sy 21 24 rfl rfl ?_ (hS := (DX.out _ CC.out))
 try simp only [Act.put, sA, s0, s1]
 refine sy 22 25 rfl rfl ?_ (hS := (DX.out _ CC.out))
 try simp only [Act.put, sA, s0, s1]
 refine sn 23 26 rfl rfl ?_ (hS := (DX.out _ CC.out))
 try simp only [Act.put, sA, s0, s1]
 refine sn 24 27 rfl rfl ?_ (hS := (DX.out _ CC.out))
 try simp only [Act.put, sA, s0, s1]
 refine sn 25 28 rfl rfl ?_ (hS := (DX.out _ CC.out))
 try simp only [Act.put, sA, s0, s1]
 refine sn 26 29 rfl rfl ?_ (hS := (DX.out _ CC.out))
 try simp only [Act.put, sA, s0, s1]
 refine sn 27 30 rfl rfl ?_ (hS := (DX.out _ CC.out))
 try simp only [Act.put, sA, s0, s1]
 refine sn 28 31 rfl rfl ?_ (hS := (DX.out _ CC.out))
 try simp only [Act.put, sA, s0, s1]
 refine sn 29 32 rfl rfl ?_ (hS := (DX.out _ CC.out))
 try simp only [Act.put, sA, s0, s1]
 refine sn 30 33 rfl rfl ?_ (hS := (DX.out _ CC.out))
 try simp only [Act.put, sA, s0, s1]
 refine sn 31 34 rfl rfl ?_ (hS := (DX.out _ CC.out))
 try simp only [Act.put, sA, s0, s1]
 refine sn 32 35 rfl rfl ?_ (hS := (DX.out _ CC.out))
 try simp only [Act.put, sA, s0, s1]
 refine sy 33 36 rfl rfl ?_ (hS := (DX.out _ CC.out))
 try simp only [Act.put, sA, s0, s1]
 refine wpAnyH_done (by kernel_rfl) ?_ _
 clear hHeld
 go_wp2
 go_ret
 exact ⟨rfl, C.out.trans CC.out⟩

set_option maxRecDepth 100000 in
set_option maxHeartbeats 8000000 in
theorem vecheck_4 (w : World) (x : EvT) (e : EvP) (h : EvR w x e) (hs : EvSm e) (hk : ∀ i, i < 4 → evOk e i) (hn : ¬ evOk e 4) :
  Calls Tryz.prog 15 #[.agg #[.int .i64 x.n, .int .i64 x.s, .string x.p, .int .i64 x.k, .int .i64 x.m, .slice x.A x.l x.c, .slice x.B x.bl x.bc]] w fun r w' => r = .returned (.int .i64 2) ∧ Chg [] w w' := by
 obtain ⟨w1, hw1, c1, b1⟩ := news1 w (.cells #[.int .i64 x.n, .int .i64 x.s, .string x.p, .int .i64 x.k, .int .i64 x.m, .slice x.A x.l x.c, .slice x.B x.bl x.bc] 29)
 have W1 := Lib.hid hw1
 have HR := Lib.hid (h.chg c1)
 have C := Lib.hid c1
 have HS := Lib.hid hs
 have k0 : Hid (evOk e 0) := Lib.hid (hk 0 (by omega))
 have k1 : Hid (evOk e 1) := Lib.hid (hk 1 (by omega))
 have k2 : Hid (evOk e 2) := Lib.hid (hk 2 (by omega))
 have k3 : Hid (evOk e 3) := Lib.hid (hk 3 (by omega))
 have k4 : Hid (¬ evOk e 4) := Lib.hid hn
 have hxn := h.n
 have hxs := h.s
 have hxp := h.p
 have hxk := h.k
 have hxm := h.m
 have hxl := h.l
 have hxbl := h.bl
 rw [hxn, hxs, hxp, hxk, hxm, hxl, hxbl] at b1 W1
 rw [hxn, hxs, hxp, hxk, hxm, hxl, hxbl]
 clear hxn hxs hxp hxk hxm hxl hxbl
 have z0 := cell_of b1 0
 have z1 := cell_of b1 1
 have z2 := cell_of b1 2
 have z3 := cell_of b1 3
 have z4 := cell_of b1 4
 have z5 := cell_of b1 5
 have z6 := cell_of b1 6
 simp only [List.getElem?_toArray, List.getElem?_cons_succ, List.getElem?_cons_zero] at z0 z1 z2 z3 z4 z5 z6
 clear hw1 c1 h hs hk hn b1
 generalize hlv : (if chkS e.q = 0 then lastL e.n e.q else 0) = lv
 have LV := Lib.hid hlv
 have ge : decide (e.s ≤ lv) = true := by
  have q : ¬ lv < e.s := fun q => k4.out (by show _ < e.s; rw [hlv]; exact q)
  exact decide_eq_true (by omega)
 clear hlv
 go_enter Tryz.func15, Tryz.ntmps15
 go_upto_region 1 with fail
 rw [← W1.out]
 generalize w.heap.size = g0 at *
 refine wp_region_held_drew (S := fun w' => w'.cell? ⟨g0, 0, none⟩ = some (.int .i64 e.n) ∧ w'.cell? ⟨g0, 1, none⟩ = some (.int .i64 e.s) ∧ w'.cell? ⟨g0, 2, none⟩ = some (.string (strOf e.p)) ∧ w'.cell? ⟨g0, 3, none⟩ = some (.int .i64 e.k) ∧ w'.cell? ⟨g0, 4, none⟩ = some (.int .i64 e.m) ∧ w'.cell? ⟨g0, 5, none⟩ = some (.slice x.A e.b.length x.c) ∧ w'.cell? ⟨g0, 6, none⟩ = some (.slice x.B e.q.length x.bc)) (by kernel_rfl) ⟨z0, z1, z2, z3, z4, z5, z6⟩ (fun hHeld => ?_)
 have CC : Hid (Chg [] w1 w1.drew) := Lib.hid (Chg.refl [] w1).drew
 have DX : Hid (∀ w', Chg [] w1 w' → w'.cell? ⟨g0, 0, none⟩ = some (.int .i64 e.n) ∧ w'.cell? ⟨g0, 1, none⟩ = some (.int .i64 e.s) ∧ w'.cell? ⟨g0, 2, none⟩ = some (.string (strOf e.p)) ∧ w'.cell? ⟨g0, 3, none⟩ = some (.int .i64 e.k) ∧ w'.cell? ⟨g0, 4, none⟩ = some (.int .i64 e.m) ∧ w'.cell? ⟨g0, 5, none⟩ = some (.slice x.A e.b.length x.c) ∧ w'.cell? ⟨g0, 6, none⟩ = some (.slice x.B e.q.length x.bc)) := Lib.hid (fun w' hc => ⟨hc.cell z0 (by simp), hc.cell z1 (by simp), hc.cell z2 (by simp), hc.cell z3 (by simp), hc.cell z4 (by simp), hc.cell z5 (by simp), hc.cell z6 (by simp)⟩)
 clear z0 z1 z2 z3 z4 z5 z6 hHeld W1
 generalize w1.drew = wc at *
 refine sy 0 3 rfl rfl ?_ (hS := (DX.out _ CC.out))
 try simp only [Act.put, sA, s0, s1]
 refine sy 1 4 rfl rfl ?_ (hS := (DX.out _ CC.out)) (hy := by (intro w hSw; (try dsimp only at hSw); obtain ⟨q0, q1, q2, q3, q4, q5, q6⟩ := hSw; go_simp; try with_reducible rfl))
 try simp only [Act.put, sA, s0, s1]
 refine wpAnyH_ready (rs := [2]) (by kernel_rfl) (by simp) ?_
 refine AllReadyH.cons rfl (fun K hK => ?_) AllReadyH.nil
 replace hK := Lib.hid hK
 go_simp
 refine (hcheck_dot wc e.n e.s).mono ?_
 rintro r wc ⟨rfl, hc⟩
 rw [chk_dot, if_pos (show FineQ e.n e.s from Decidable.byContradiction (fun q => absurd k0.out (by show ¬ chkD e.n e.s = 0; rw [chkD_odd q]; decide)))]
 replace CC := Lib.hid (CC.out.trans hc)
 clear hc
 refine hK.out _ _ (DX.out _ CC.out) (fun hHeld => ?_)
 clear hK K
 try simp only [Act.put, sA, s0, s1]
 refine sy 3 6 rfl rfl ?_ (hS := (DX.out _ CC.out))
 try simp only [Act.put, sA, s0, s1]
 refine sy 4 7 rfl rfl ?_ (hS := (DX.out _ CC.out))
 try simp only [Act.put, sA, s0, s1]
 refine sy 5 8 rfl rfl ?_ (hS := (DX.out _ CC.out))
 try simp only [Act.put, sA, s0, s1]
 refine sy 6 9 rfl rfl ?_ (hS := (DX.out _ CC.out)) (hy := by (intro w hSw; (try dsimp only at hSw); obtain ⟨q0, q1, q2, q3, q4, q5, q6⟩ := hSw; go_simp; try with_reducible rfl))
 try simp only [Act.put, sA, s0, s1]
 refine wpAnyH_ready (rs := [7]) (by kernel_rfl) (by simp) ?_
 refine AllReadyH.cons rfl (fun K hK => ?_) AllReadyH.nil
 replace hK := Lib.hid hK
 go_simp
 refine (qcheck_any wc e.p HS.out.1).mono ?_
 rintro r wc ⟨rfl, hc⟩
 rw [if_pos (show checkL 6 12 e.p = true from k1.out)]
 replace CC := Lib.hid (CC.out.trans hc)
 clear hc
 refine hK.out _ _ (DX.out _ CC.out) (fun hHeld => ?_)
 clear hK K
 try simp only [Act.put, sA, s0, s1]
 refine sy 8 11 rfl rfl ?_ (hS := (DX.out _ CC.out))
 try simp only [Act.put, sA, s0, s1]
 refine sy 9 12 rfl rfl ?_ (hS := (DX.out _ CC.out))
 try simp only [Act.put, sA, s0, s1]
 refine sy 10 13 rfl rfl ?_ (hS := (DX.out _ CC.out))
 try simp only [Act.put, sA, s0, s1]
 refine sy 11 14 rfl rfl ?_ (hS := (DX.out _ CC.out))
 try simp only [Act.put, sA, s0, s1]
 refine sy 12 15 rfl rfl ?_ (hS := (DX.out _ CC.out)) (hy := by (intro w hSw; (try dsimp only at hSw); obtain ⟨q0, q1, q2, q3, q4, q5, q6⟩ := hSw; go_simp; try with_reducible rfl))
 try simp only [Act.put, sA, s0, s1]
 refine wpAnyH_ready (rs := [13]) (by kernel_rfl) (by simp) ?_
 refine AllReadyH.cons rfl (fun K hK => ?_) AllReadyH.nil
 replace hK := Lib.hid hK
 go_simp
 refine (fcheck_any wc e.k e.m x.A e.b.length x.c HS.out.2.1).mono ?_
 rintro r wc ⟨rfl, hc⟩
 rw [show chkE e.k e.m e.b.length = 0 from k2.out]
 replace CC := Lib.hid (CC.out.trans hc)
 clear hc
 refine hK.out _ _ (DX.out _ CC.out) (fun hHeld => ?_)
 clear hK K
 try simp only [Act.put, sA, s0, s1]
 refine sy 14 17 rfl rfl ?_ (hS := (DX.out _ CC.out))
 try simp only [Act.put, sA, s0, s1]
 refine sy 15 18 rfl rfl ?_ (hS := (DX.out _ CC.out))
 try simp only [Act.put, sA, s0, s1]
 refine sy 16 19 rfl rfl ?_ (hS := (DX.out _ CC.out))
 try simp only [Act.put, sA, s0, s1]
 refine sy 17 20 rfl rfl ?_ (hS := (DX.out _ CC.out))
 try simp only [Act.put, sA, s0, s1]
 refine sy 18 21 rfl rfl ?_ (hS := (DX.out _ CC.out)) (hy := by (intro w hSw; (try dsimp only at hSw); obtain ⟨q0, q1, q2, q3, q4, q5, q6⟩ := hSw; go_simp; try with_reducible rfl))
 try simp only [Act.put, sA, s0, s1]
 refine wpAnyH_ready (rs := [19]) (by kernel_rfl) (by simp) ?_
 refine AllReadyH.cons rfl (fun K hK => ?_) AllReadyH.nil
 replace hK := Lib.hid hK
 go_simp
 refine (qacheck_any wc x.B e.q.length x.bc e.q (by have := HR.out.B.chg CC.out (by simp); rw [HR.out.bl] at this; exact this) HS.out.2.2).mono ?_
 rintro r wc ⟨rfl, hc⟩
 rw [show chkS e.q = 0 from k3.out]
 replace CC := Lib.hid (CC.out.trans hc)
 clear hc
 refine hK.out _ _ (DX.out _ CC.out) (fun hHeld => ?_)
 clear hK K
 try simp only [Act.put, sA, s0, s1]
 refine sy 20 23 rfl rfl ?_ (hS := (DX.out _ CC.out))
 try simp only [Act.put, sA, s0, s1]
 refine sy 21 24 rfl rfl ?_ (hS := (DX.out _ CC.out))
 try simp only [Act.put, sA, s0, s1]
 refine sy 22 25 rfl rfl ?_ (hS := (DX.out _ CC.out))
 try simp only [Act.put, sA, s0, s1]
 refine sy 23 26 rfl rfl ?_ (hS := (DX.out _ CC.out))
 try simp only [Act.put, sA, s0, s1]
 refine sy 24 27 rfl rfl ?_ (hS := (DX.out _ CC.out)) (hy := by (intro w hSw; (try dsimp only at hSw); obtain ⟨q0, q1, q2, q3, q4, q5, q6⟩ := hSw; go_simp; try with_reducible rfl))
 try simp only [Act.put, sA, s0, s1]
 refine sy 25 28 rfl rfl ?_ (hS := (DX.out _ CC.out))
 try simp only [Act.put, sA, s0, s1]
 refine sy 26 29 rfl rfl ?_ (hS := (DX.out _ CC.out))
 try simp only [Act.put, sA, s0, s1]
 refine sy 27 30 rfl rfl ?_ (hS := (DX.out _ CC.out)) (hy := by (intro w hSw; (try dsimp only at hSw); obtain ⟨q0, q1, q2, q3, q4, q5, q6⟩ := hSw; go_simp; try with_reducible rfl))
 try simp only [Act.put, sA, s0, s1]
 refine sy 29 32 rfl rfl ?_ (hS := (DX.out _ CC.out))
 try simp only [Act.put, sA, s0, s1]
 refine sy 30 33 rfl rfl ?_ (hS := (DX.out _ CC.out))
 try simp only [Act.put, sA, s0, s1]
 refine sy 31 34 rfl rfl ?_ (hS := (DX.out _ CC.out)) (hy := by (intro w hSw; (try dsimp only at hSw); obtain ⟨q0, q1, q2, q3, q4, q5, q6⟩ := hSw; go_simp; try with_reducible rfl))
 try simp only [Act.put, sA, s0, s1]
 refine wpAnyH_ready (rs := [28]) (by kernel_rfl) (by simp) ?_
 refine AllReadyH.cons rfl (fun K hK => ?_) AllReadyH.nil
 replace hK := Lib.hid hK
 go_simp
 refine (qlast_any wc x.B x.bc e.q e.n (by have := HR.out.B.chg CC.out (by simp); rw [HR.out.bl] at this; exact this) HS.out.2.2).mono ?_
 rintro r wc ⟨rfl, hc⟩
 rw [LV.out]
 replace CC := Lib.hid (CC.out.trans hc)
 clear hc
 refine hK.out _ _ (DX.out _ CC.out) (fun hHeld => ?_)
 clear hK K
 try simp only [Act.put, sA, s0, s1]
 refine sy 32 35 rfl rfl ?_ (hS := (DX.out _ CC.out))
 try simp only [Act.put, sA, s0, s1]
 refine sy 33 36 rfl rfl ?_ (hS := (DX.out _ CC.out))
 try simp only [Act.put, sA, s0, s1]
 refine wpAnyH_done (by kernel_rfl) ?_ _
 clear hHeld
 go_wp2
 go_ret
 exact ⟨rfl, C.out.trans CC.out⟩

set_option maxRecDepth 100000 in
set_option maxHeartbeats 8000000 in
theorem vecheck_5 (w : World) (x : EvT) (e : EvP) (h : EvR w x e) (hs : EvSm e) (hk : ∀ i, i < 5 → evOk e i) :
  Calls Tryz.prog 15 #[.agg #[.int .i64 x.n, .int .i64 x.s, .string x.p, .int .i64 x.k, .int .i64 x.m, .slice x.A x.l x.c, .slice x.B x.bl x.bc]] w fun r w' => r = .returned (.int .i64 0) ∧ Chg [] w w' := by
 obtain ⟨w1, hw1, c1, b1⟩ := news1 w (.cells #[.int .i64 x.n, .int .i64 x.s, .string x.p, .int .i64 x.k, .int .i64 x.m, .slice x.A x.l x.c, .slice x.B x.bl x.bc] 29)
 have W1 := Lib.hid hw1
 have HR := Lib.hid (h.chg c1)
 have C := Lib.hid c1
 have HS := Lib.hid hs
 have k0 : Hid (evOk e 0) := Lib.hid (hk 0 (by omega))
 have k1 : Hid (evOk e 1) := Lib.hid (hk 1 (by omega))
 have k2 : Hid (evOk e 2) := Lib.hid (hk 2 (by omega))
 have k3 : Hid (evOk e 3) := Lib.hid (hk 3 (by omega))
 have k4 : Hid (evOk e 4) := Lib.hid (hk 4 (by omega))
 have hxn := h.n
 have hxs := h.s
 have hxp := h.p
 have hxk := h.k
 have hxm := h.m
 have hxl := h.l
 have hxbl := h.bl
 rw [hxn, hxs, hxp, hxk, hxm, hxl, hxbl] at b1 W1
 rw [hxn, hxs, hxp, hxk, hxm, hxl, hxbl]
 clear hxn hxs hxp hxk hxm hxl hxbl
 have z0 := cell_of b1 0
 have z1 := cell_of b1 1
 have z2 := cell_of b1 2
 have z3 := cell_of b1 3
 have z4 := cell_of b1 4
 have z5 := cell_of b1 5
 have z6 := cell_of b1 6
 simp only [List.getElem?_toArray, List.getElem?_cons_succ, List.getElem?_cons_zero] at z0 z1 z2 z3 z4 z5 z6
 clear hw1 c1 h hs hk b1
 generalize hlv : (if chkS e.q = 0 then lastL e.n e.q else 0) = lv
 have LV := Lib.hid hlv
 have ge : decide (e.s ≤ lv) = false := by
  have q : lv < e.s := by rw [← hlv]; exact k4.out
  exact decide_eq_false (by omega)
 clear hlv
 go_enter Tryz.func15, Tryz.ntmps15
 go_upto_region 1 with fail
 rw [← W1.out]
 generalize w.heap.size = g0 at *
 refine wp_region_held_drew (S := fun w' => w'.cell? ⟨g0, 0, none⟩ = some (.int .i64 e.n) ∧ w'.cell? ⟨g0, 1, none⟩ = some (.int .i64 e.s) ∧ w'.cell? ⟨g0, 2, none⟩ = some (.string (strOf e.p)) ∧ w'.cell? ⟨g0, 3, none⟩ = some (.int .i64 e.k) ∧ w'.cell? ⟨g0, 4, none⟩ = some (.int .i64 e.m) ∧ w'.cell? ⟨g0, 5, none⟩ = some (.slice x.A e.b.length x.c) ∧ w'.cell? ⟨g0, 6, none⟩ = some (.slice x.B e.q.length x.bc)) (by kernel_rfl) ⟨z0, z1, z2, z3, z4, z5, z6⟩ (fun hHeld => ?_)
 have CC : Hid (Chg [] w1 w1.drew) := Lib.hid (Chg.refl [] w1).drew
 have DX : Hid (∀ w', Chg [] w1 w' → w'.cell? ⟨g0, 0, none⟩ = some (.int .i64 e.n) ∧ w'.cell? ⟨g0, 1, none⟩ = some (.int .i64 e.s) ∧ w'.cell? ⟨g0, 2, none⟩ = some (.string (strOf e.p)) ∧ w'.cell? ⟨g0, 3, none⟩ = some (.int .i64 e.k) ∧ w'.cell? ⟨g0, 4, none⟩ = some (.int .i64 e.m) ∧ w'.cell? ⟨g0, 5, none⟩ = some (.slice x.A e.b.length x.c) ∧ w'.cell? ⟨g0, 6, none⟩ = some (.slice x.B e.q.length x.bc)) := Lib.hid (fun w' hc => ⟨hc.cell z0 (by simp), hc.cell z1 (by simp), hc.cell z2 (by simp), hc.cell z3 (by simp), hc.cell z4 (by simp), hc.cell z5 (by simp), hc.cell z6 (by simp)⟩)
 clear z0 z1 z2 z3 z4 z5 z6 hHeld W1
 generalize w1.drew = wc at *
 refine sy 0 3 rfl rfl ?_ (hS := (DX.out _ CC.out))
 try simp only [Act.put, sA, s0, s1]
 refine sy 1 4 rfl rfl ?_ (hS := (DX.out _ CC.out)) (hy := by (intro w hSw; (try dsimp only at hSw); obtain ⟨q0, q1, q2, q3, q4, q5, q6⟩ := hSw; go_simp; try with_reducible rfl))
 try simp only [Act.put, sA, s0, s1]
 refine wpAnyH_ready (rs := [2]) (by kernel_rfl) (by simp) ?_
 refine AllReadyH.cons rfl (fun K hK => ?_) AllReadyH.nil
 replace hK := Lib.hid hK
 go_simp
 refine (hcheck_dot wc e.n e.s).mono ?_
 rintro r wc ⟨rfl, hc⟩
 rw [chk_dot, if_pos (show FineQ e.n e.s from Decidable.byContradiction (fun q => absurd k0.out (by show ¬ chkD e.n e.s = 0; rw [chkD_odd q]; decide)))]
 replace CC := Lib.hid (CC.out.trans hc)
 clear hc
 refine hK.out _ _ (DX.out _ CC.out) (fun hHeld => ?_)
 clear hK K
 try simp only [Act.put, sA, s0, s1]
 refine sy 3 6 rfl rfl ?_ (hS := (DX.out _ CC.out))
 try simp only [Act.put, sA, s0, s1]
 refine sy 4 7 rfl rfl ?_ (hS := (DX.out _ CC.out))
 try simp only [Act.put, sA, s0, s1]
 refine sy 5 8 rfl rfl ?_ (hS := (DX.out _ CC.out))
 try simp only [Act.put, sA, s0, s1]
 refine sy 6 9 rfl rfl ?_ (hS := (DX.out _ CC.out)) (hy := by (intro w hSw; (try dsimp only at hSw); obtain ⟨q0, q1, q2, q3, q4, q5, q6⟩ := hSw; go_simp; try with_reducible rfl))
 try simp only [Act.put, sA, s0, s1]
 refine wpAnyH_ready (rs := [7]) (by kernel_rfl) (by simp) ?_
 refine AllReadyH.cons rfl (fun K hK => ?_) AllReadyH.nil
 replace hK := Lib.hid hK
 go_simp
 refine (qcheck_any wc e.p HS.out.1).mono ?_
 rintro r wc ⟨rfl, hc⟩
 rw [if_pos (show checkL 6 12 e.p = true from k1.out)]
 replace CC := Lib.hid (CC.out.trans hc)
 clear hc
 refine hK.out _ _ (DX.out _ CC.out) (fun hHeld => ?_)
 clear hK K
 try simp only [Act.put, sA, s0, s1]
 refine sy 8 11 rfl rfl ?_ (hS := (DX.out _ CC.out))
 try simp only [Act.put, sA, s0, s1]
 refine sy 9 12 rfl rfl ?_ (hS := (DX.out _ CC.out))
 try simp only [Act.put, sA, s0, s1]
 refine sy 10 13 rfl rfl ?_ (hS := (DX.out _ CC.out))
 try simp only [Act.put, sA, s0, s1]
 refine sy 11 14 rfl rfl ?_ (hS := (DX.out _ CC.out))
 try simp only [Act.put, sA, s0, s1]
 refine sy 12 15 rfl rfl ?_ (hS := (DX.out _ CC.out)) (hy := by (intro w hSw; (try dsimp only at hSw); obtain ⟨q0, q1, q2, q3, q4, q5, q6⟩ := hSw; go_simp; try with_reducible rfl))
 try simp only [Act.put, sA, s0, s1]
 refine wpAnyH_ready (rs := [13]) (by kernel_rfl) (by simp) ?_
 refine AllReadyH.cons rfl (fun K hK => ?_) AllReadyH.nil
 replace hK := Lib.hid hK
 go_simp
 refine (fcheck_any wc e.k e.m x.A e.b.length x.c HS.out.2.1).mono ?_
 rintro r wc ⟨rfl, hc⟩
 rw [show chkE e.k e.m e.b.length = 0 from k2.out]
 replace CC := Lib.hid (CC.out.trans hc)
 clear hc
 refine hK.out _ _ (DX.out _ CC.out) (fun hHeld => ?_)
 clear hK K
 try simp only [Act.put, sA, s0, s1]
 refine sy 14 17 rfl rfl ?_ (hS := (DX.out _ CC.out))
 try simp only [Act.put, sA, s0, s1]
 refine sy 15 18 rfl rfl ?_ (hS := (DX.out _ CC.out))
 try simp only [Act.put, sA, s0, s1]
 refine sy 16 19 rfl rfl ?_ (hS := (DX.out _ CC.out))
 try simp only [Act.put, sA, s0, s1]
 refine sy 17 20 rfl rfl ?_ (hS := (DX.out _ CC.out))
 try simp only [Act.put, sA, s0, s1]
 refine sy 18 21 rfl rfl ?_ (hS := (DX.out _ CC.out)) (hy := by (intro w hSw; (try dsimp only at hSw); obtain ⟨q0, q1, q2, q3, q4, q5, q6⟩ := hSw; go_simp; try with_reducible rfl))
 try simp only [Act.put, sA, s0, s1]
 refine wpAnyH_ready (rs := [19]) (by kernel_rfl) (by simp) ?_
 refine AllReadyH.cons rfl (fun K hK => ?_) AllReadyH.nil
 replace hK := Lib.hid hK
 go_simp
 refine (qacheck_any wc x.B e.q.length x.bc e.q (by have := HR.out.B.chg CC.out (by simp); rw [HR.out.bl] at this; exact this) HS.out.2.2).mono ?_
 rintro r wc ⟨rfl, hc⟩
 rw [show chkS e.q = 0 from k3.out]
 replace CC := Lib.hid (CC.out.trans hc)
 clear hc
 refine hK.out _ _ (DX.out _ CC.out) (fun hHeld => ?_)
 clear hK K
 try simp only [Act.put, sA, s0, s1]
 refine sy 20 23 rfl rfl ?_ (hS := (DX.out _ CC.out))
 try simp only [Act.put, sA, s0, s1]
 refine sy 21 24 rfl rfl ?_ (hS := (DX.out _ CC.out))
 try simp only [Act.put, sA, s0, s1]
 refine sy 22 25 rfl rfl ?_ (hS := (DX.out _ CC.out))
 try simp only [Act.put, sA, s0, s1]
 refine sy 23 26 rfl rfl ?_ (hS := (DX.out _ CC.out))
 try simp only [Act.put, sA, s0, s1]
 refine sy 24 27 rfl rfl ?_ (hS := (DX.out _ CC.out)) (hy := by (intro w hSw; (try dsimp only at hSw); obtain ⟨q0, q1, q2, q3, q4, q5, q6⟩ := hSw; go_simp; try with_reducible rfl))
 try simp only [Act.put, sA, s0, s1]
 refine sy 25 28 rfl rfl ?_ (hS := (DX.out _ CC.out))
 try simp only [Act.put, sA, s0, s1]
 refine sy 26 29 rfl rfl ?_ (hS := (DX.out _ CC.out))
 try simp only [Act.put, sA, s0, s1]
 refine sy 27 30 rfl rfl ?_ (hS := (DX.out _ CC.out)) (hy := by (intro w hSw; (try dsimp only at hSw); obtain ⟨q0, q1, q2, q3, q4, q5, q6⟩ := hSw; go_simp; try with_reducible rfl))
 try simp only [Act.put, sA, s0, s1]
 refine sy 29 32 rfl rfl ?_ (hS := (DX.out _ CC.out))
 try simp only [Act.put, sA, s0, s1]
 refine sy 30 33 rfl rfl ?_ (hS := (DX.out _ CC.out))
 try simp only [Act.put, sA, s0, s1]
 refine sy 31 34 rfl rfl ?_ (hS := (DX.out _ CC.out)) (hy := by (intro w hSw; (try dsimp only at hSw); obtain ⟨q0, q1, q2, q3, q4, q5, q6⟩ := hSw; go_simp; try with_reducible rfl))
 try simp only [Act.put, sA, s0, s1]
 refine wpAnyH_ready (rs := [28]) (by kernel_rfl) (by simp) ?_
 refine AllReadyH.cons rfl (fun K hK => ?_) AllReadyH.nil
 replace hK := Lib.hid hK
 go_simp
 refine (qlast_any wc x.B x.bc e.q e.n (by have := HR.out.B.chg CC.out (by simp); rw [HR.out.bl] at this; exact this) HS.out.2.2).mono ?_
 rintro r wc ⟨rfl, hc⟩
 rw [LV.out]
 replace CC := Lib.hid (CC.out.trans hc)
 clear hc
 refine hK.out _ _ (DX.out _ CC.out) (fun hHeld => ?_)
 clear hK K
 try simp only [Act.put, sA, s0, s1]
 refine sy 32 35 rfl rfl ?_ (hS := (DX.out _ CC.out))
 try simp only [Act.put, sA, s0, s1]
 refine sy 33 36 rfl rfl ?_ (hS := (DX.out _ CC.out))
 try simp only [Act.put, sA, s0, s1]
 refine wpAnyH_done (by kernel_rfl) ?_ _
 clear hHeld
 go_wp2
 go_ret
 exact ⟨rfl, C.out.trans CC.out⟩

theorem vecheck_any (w : World) (x : EvT) (e : EvP) (h : EvR w x e) (hs : EvSm e) :
  Calls Tryz.prog 15 #[.agg #[.int .i64 x.n, .int .i64 x.s, .string x.p, .int .i64 x.k, .int .i64 x.m, .slice x.A x.l x.c, .slice x.B x.bl x.bc]] w fun r w' => r = .returned (.int .i64 (chkEv e)) ∧ Chg [] w w' := by
 by_cases h0 : evOk e 0
 rotate_left
 ·
  rw [chkEv_no 0 (by omega) h0]
  exact vecheck_0 w x e h hs (fun i hi => by omega) h0
 by_cases h1 : evOk e 1
 rotate_left
 ·
  rw [chkEv_no 1 (by omega) h1]
  exact vecheck_1 w x e h hs (fun i hi => by match i, hi with | 0, _ => exact h0) h1
 by_cases h2 : evOk e 2
 rotate_left
 ·
  rw [chkEv_no 2 (by omega) h2]
  exact vecheck_2 w x e h hs (fun i hi => by match i, hi with | 0, _ => exact h0 | 1, _ => exact h1) h2
 by_cases h3 : evOk e 3
 rotate_left
 ·
  rw [chkEv_no 3 (by omega) h3]
  exact vecheck_3 w x e h hs (fun i hi => by match i, hi with | 0, _ => exact h0 | 1, _ => exact h1 | 2, _ => exact h2) h3
 by_cases h4 : evOk e 4
 rotate_left
 ·
  rw [chkEv_no 4 (by omega) h4]
  exact vecheck_4 w x e h hs (fun i hi => by match i, hi with | 0, _ => exact h0 | 1, _ => exact h1 | 2, _ => exact h2 | 3, _ => exact h3) h4
 have ha : ∀ i, i < 5 → evOk e i := fun i hi => by match i, hi with | 0, _ => exact h0 | 1, _ => exact h1 | 2, _ => exact h2 | 3, _ => exact h3 | 4, _ => exact h4
 rw [chkEv_yes ha]
 exact vecheck_5 w x e h hs ha
end
section
open Go.RowKit Go.Lib
set_option linter.unusedSimpArgs false
set_option linter.unusedVariables false


set_option maxRecDepth 100000 in
set_option maxHeartbeats 8000000 in
theorem qadd_any (w : World) (A : Option Addr) (c : Nat) (xs : List Sp) (n s : Int) (h : RdK spanTy w A xs.length xs) (hn : xs.length ≤ 140737488351232) :
  Calls Tryz.prog 91 #[.slice A xs.length c, .agg #[.int .i64 n, .int .i64 s]] w fun e w' => ∃ A' c', e = .returned (.tuple #[.slice A' (joinE xs [(n, s, s)]).2.length c', .int .i64 (joinE xs [(n, s, s)]).1]) ∧ OwnK spanTy w' A' c' (joinE xs [(n, s, s)]).2 ∧ (∀ a, A' = some a → w.heap.size ≤ a.block) ∧ Chg [] w w' := by

 obtain ⟨w1, hw1, c1, b1⟩ := news1 w (.cells #[.int .i64 n, .int .i64 s] 23)
 have W1 := Lib.hid hw1
 have C := Lib.hid c1
 have B1 := Lib.hid b1
 have H := Lib.hid (h.chg c1 (by simp))
 have HN := Lib.hid hn
 clear hw1 c1 b1 h hn
 rcases chk_two xs with e1 | e1
 rotate_left
 ·
  have EJ : Hid (joinE xs [(n, s, s)] = (2, [])) := Lib.hid (by unfold joinE; rw [if_neg (by omega)])
  go_enter Tryz.func91, Tryz.ntmps91
  go_upto_region 1 with fail
  rw [← W1.out]
  generalize w.heap.size = g0 at *
  go_wp2_with fail
  refine (qacheck_any w1 A _ c xs H.out HN.out).mono ?_
  rintro e w2 ⟨rfl, hc⟩
  rw [e1]
  replace C := Lib.hid (C.out.trans hc)
  clear hc
  go_wp2
  go_ret2
  rw [EJ.out]
  exact ⟨none, 0, rfl, OwnK.none_ _, by simp, C.out⟩
 rcases chk_two [(n, s, s)] with e2 | e2
 rotate_left
 ·
  have EJ : Hid (joinE xs [(n, s, s)] = (2, [])) := Lib.hid (by unfold joinE; rw [if_neg (by omega)])
  go_enter Tryz.func91, Tryz.ntmps91
  go_upto_region 1 with fail
  rw [← W1.out]
  generalize w.heap.size = g0 at *
  go_wp2_with fail
  refine (qacheck_any w1 A _ c xs H.out HN.out).mono ?_
  rintro e w2 ⟨rfl, hc⟩
  rw [e1]
  replace C := Lib.hid (C.out.trans hc)
  replace B1 := Lib.hid (hc.at_ B1.out (by simp))
  have z0 := cell_of B1.out 0
  have z1 := cell_of B1.out 1
  simp only [List.getElem?_toArray, List.getElem?_cons_succ, List.getElem?_cons_zero] at z0 z1
  clear hc
  go_wp2_with fail
  refine (hcheck_dot w2 n s).mono ?_
  rintro e w3 ⟨rfl, hc⟩
  rw [e2]
  replace C := Lib.hid (C.out.trans hc)
  clear hc z0 z1
  go_wp2
  go_ret2
  rw [EJ.out]
  exact ⟨none, 0, rfl, OwnK.none_ _, by simp, C.out⟩
 have EJ : Hid (joinE xs [(n, s, s)] = boundP (tidyS (xs ++ [(n, s, s)]))) := Lib.hid (by unfold joinE; rw [if_pos ⟨e1, e2⟩])
 have WX := wf_of_chk e1
 have WD := wf_of_chk e2
 have HL : Hid (xs.length ≤ 4000) := Lib.hid WX.2
 have HB : Hid (∀ x ∈ xs ++ [(n, s, s)], B3 x) := Lib.hid (fun x hx => by
  rcases List.mem_append.1 hx with q | q
  ·
   have a := WX.1.2 x q; have b := WX.1.1.1 x q; unfold SpOk at b; unfold B3; omega
  ·
   have a := WD.1.2 x q; have b := WD.1.1.1 x q; unfold SpOk at b; unfold B3; omega)
 clear WX WD
 rw [EJ.out]
 clear EJ
 generalize hRR : boundP (tidyS (xs ++ [(n, s, s)])) = RR
 have HRR := Lib.hid hRR
 clear hRR
 go_enter Tryz.func91, Tryz.ntmps91
 go_upto_region 1 with fail
 rw [← W1.out]
 generalize w.heap.size = g0 at *
 go_wp2_with fail
 refine (qacheck_any w1 A _ c xs H.out HN.out).mono ?_
 rintro e w2 ⟨rfl, hc⟩
 rw [e1]
 replace C := Lib.hid (C.out.trans hc)
 replace B1 := Lib.hid (hc.at_ B1.out (by simp))
 replace H := Lib.hid (H.out.chg hc (by simp))
 have z0 := cell_of B1.out 0
 have z1 := cell_of B1.out 1
 simp only [List.getElem?_toArray, List.getElem?_cons_succ, List.getElem?_cons_zero] at z0 z1
 clear hc
 go_wp2_with fail
 refine (hcheck_dot w2 n s).mono ?_
 rintro e w3 ⟨rfl, hc⟩
 rw [e2]
 replace C := Lib.hid (C.out.trans hc)
 replace B1 := Lib.hid (hc.at_ B1.out (by simp))
 replace H := Lib.hid (H.out.chg hc (by simp))
 clear hc z0 z1 e1 e2
 go_upto_region 3 with fail
 have z0 := cell_of B1.out 0
 have z1 := cell_of B1.out 1
 simp only [List.getElem?_toArray, List.getElem?_cons_succ, List.getElem?_cons_zero] at z0 z1
 refine wp_region_held_drew (S := fun w' => w'.cell? ⟨g0, 0, none⟩ = some (.int .i64 n) ∧ w'.cell? ⟨g0, 1, none⟩ = some (.int .i64 s)) (by kernel_rfl) ⟨z0, z1⟩ (fun hHeld => ?_)
 have CD := Lib.hid (Chg.refl [] w3).drew
 replace C := Lib.hid (C.out.trans CD.out)
 replace B1 := Lib.hid (CD.out.at_ B1.out (by simp))
 replace H := Lib.hid (H.out.chg CD.out (by simp))
 clear CD z0 z1 hHeld
 generalize w3.drew = wd at *
 have DX : Hid (∀ w', Chg [] wd w' → w'.cell? ⟨g0, 0, none⟩ = some (.int .i64 n) ∧ w'.cell? ⟨g0, 1, none⟩ = some (.int .i64 s)) := Lib.hid (fun w' hc => by
  have b := hc.at_ B1.out (by simp)
  exact ⟨cell_of b 0, cell_of b 1⟩)
 have R1 : Hid (∀ w', Chg [] wd w' → RdK spanTy w' A xs.length xs) := Lib.hid (fun w' hc => H.out.chg hc (by simp))
 have C0 := Lib.hid C.out
 clear C H B1
 obtain ⟨wc, hwc⟩ : ∃ wc, wd = wc := ⟨_, rfl⟩
 have C : Hid (Chg [] wd wc) := Lib.hid (hwc ▸ Chg.refl [] wd)
 rw [hwc]
 clear hwc
 have N1 : Hid ((0 + xs.length) * 400 ≤ 140737488355327) := Lib.hid (by have := HL.out; omega)
 have N2 : Hid ((xs.length + 1) * 400 ≤ 140737488355327) := Lib.hid (by have := HL.out; omega)
 refine sy 1 15 rfl rfl ?_ (hS := (DX.out _ C.out))
 try simp only [Act.put, sA, s0, s1]
 refine sy 3 17 rfl rfl ?_ (hS := (DX.out _ C.out))
 try simp only [Act.put, sA, s0, s1]
 refine sy 4 18 rfl rfl ?_ (hS := (DX.out _ C.out)) (hy := by (intro w hSw; (try dsimp only at hSw); obtain ⟨q0, q1⟩ := hSw; go_simp; try with_reducible rfl))
 try simp only [Act.put, sA, s0, s1]
 refine sy 5 19 rfl rfl ?_ (hS := (DX.out _ C.out))
 try simp only [Act.put, sA, s0, s1]
 refine sy 6 20 rfl rfl ?_ (hS := (DX.out _ C.out)) (hy := by (intro w hSw; (try dsimp only at hSw); obtain ⟨q0, q1⟩ := hSw; go_simp; try with_reducible rfl))
 try simp only [Act.put, sA, s0, s1]
 refine sy 7 21 rfl rfl ?_ (hS := (DX.out _ C.out))
 try simp only [Act.put, sA, s0, s1]
 refine sy 8 22 rfl rfl ?_ (hS := (DX.out _ C.out)) (hy := by (intro w hSw; (try dsimp only at hSw); obtain ⟨q0, q1⟩ := hSw; go_simp; try with_reducible rfl))
 try simp only [Act.put, sA, s0, s1]
 refine sy 9 23 rfl rfl ?_ (hS := (DX.out _ C.out))
 try simp only [Act.put, sA, s0, s1]
 refine wpAnyH_ready (rs := [0, 10]) (by kernel_rfl) (by simp) ?_
 refine AllReadyH.cons rfl (fun K hK => ?_) (AllReadyH.cons rfl (fun K hK => ?_) AllReadyH.nil)
 ·
  skip
  replace hK := Lib.hid hK
  have hHeld := DX.out _ C.out
  obtain ⟨q0, q1⟩ := hHeld
  obtain ⟨pe, hpp⟩ : ∃ p, wc.heap.size = p := ⟨_, rfl⟩
  have SZpe := Lib.hid (sized C.out hpp)
  have NSpe := Lib.hid hpp
  clear hpp
  go_simp
  clear q0 q1
  obtain ⟨wc, hw, cn, bn⟩ := news1 wc (.cells #[] 62)
  rw [← hw, NSpe.out]
  rw [NSpe.out] at bn
  have EO := Lib.hid (own_emptyS bn)
  have LTpe := Lib.hid (lt_of_heap bn)
  replace C := Lib.hid (C.out.trans cn)
  try replace XR := Lib.hid (XR.out.chg cn (by simp))
  try have NE : Hid (px ≠ pe) := Lib.hid (by have := NSpe.out; have := LTpx.out; omega)
  clear hw cn bn
  refine hK.out _ _ (DX.out _ C.out) (fun hHeld => ?_)
  clear hK K
  try simp only [Act.put, sA, s0, s1]
  refine wpAnyH_ready (rs := [2, 10]) (by kernel_rfl) (by simp) ?_
  refine AllReadyH.cons rfl (fun K hK => ?_) (AllReadyH.cons rfl (fun K hK => ?_) AllReadyH.nil)
  ·
   skip
   replace hK := Lib.hid hK
   refine step_appK (R := spanTy) rfl (.tmp 14) (.tmp 15) rfl rfl (A := some ⟨pe, 0, none⟩) (B := A) (n := 0) (m := xs.length) (c := 0) (d := c) (xs := []) (ys := xs) EO.out rfl rfl (R1.out _ C.out) N1.out ?_
   rw [Nat.zero_add]
   intro A5 c5 wc o5 g5 e5
   have O5 := Lib.hid o5
   have F5 := Lib.hid (fresh_appS SZpe.out C.out g5 e5)
   replace C := Lib.hid F5.out.2
   try replace XR := Lib.hid (rd_overS XR.out NE.out g5)
   clear o5 g5 e5
   refine hK.out _ _ (DX.out _ C.out) (fun hHeld => ?_)
   clear hK K
   try simp only [Act.put, sA, s0, s1]
   refine wpAnyH_ready (rs := [10]) (by kernel_rfl) (by simp) ?_
   refine AllReadyH.cons rfl (fun K hK => ?_) AllReadyH.nil
   replace hK := Lib.hid hK
   have hHeld := DX.out _ C.out
   obtain ⟨q0, q1⟩ := hHeld
   obtain ⟨px, hpp⟩ : ∃ p, wc.heap.size = p := ⟨_, rfl⟩
   have SZpx := Lib.hid (sized C.out hpp)
   have NSpx := Lib.hid hpp
   clear hpp
   go_simp
   clear q0 q1
   obtain ⟨wc, hw, cn, bn⟩ := news1 wc (.cells #[.int .i64 n, .int .i64 s, .int .i64 s] 62)
   rw [← hw, NSpx.out]
   rw [NSpx.out] at bn
   have XR := Lib.hid (rd_oneS (x := (n, s, s)) bn)
   have LTpx := Lib.hid (lt_of_heap bn)
   replace C := Lib.hid (C.out.trans cn)
   try replace EO := Lib.hid (EO.out.chg cn (by simp))
   try replace O5 := Lib.hid (O5.out.chg cn (by simp))
   try have NE : Hid (px ≠ pe) := Lib.hid (by have := NSpx.out; have := LTpe.out; omega)
   clear hw cn bn
   refine hK.out _ _ (DX.out _ C.out) (fun hHeld => ?_)
   clear hK K
   try simp only [Act.put, sA, s0, s1]
   refine wpAnyH_ready (rs := [11]) (by kernel_rfl) (by simp) ?_
   refine AllReadyH.cons rfl (fun K hK => ?_) AllReadyH.nil
   replace hK := Lib.hid hK
   refine step_appK (R := spanTy) rfl (.tmp 16) (.tmp 24) rfl rfl (A := A5) (B := some ⟨px, 0, none⟩) (n := xs.length) (m := 1) (c := c5) (d := 1) (xs := [] ++ xs) (ys := [(n, s, s)]) O5.out (by simp) rfl XR.out N2.out ?_
   intro A6 c6 wc o6 g6 e6
   have O6 := Lib.hid o6
   rw [List.nil_append] at O6
   have F6 := Lib.hid (fresh_appS F5.out.1 C.out g6 e6)
   replace C := Lib.hid F6.out.2
   clear o6 g6 e6
   refine hK.out _ _ (DX.out _ C.out) (fun hHeld => ?_)
   clear hK K
   try simp only [Act.put, sA, s0, s1]
   refine wpAnyH_ready (rs := [12]) (by kernel_rfl) (by simp) ?_
   refine AllReadyH.cons rfl (fun K hK => ?_) AllReadyH.nil
   replace hK := Lib.hid hK
   go_simp
   have EL : xs.length + 1 = (xs ++ [(n, s, s)]).length := by simp
   rw [EL]
   refine (qtidy_any wc A6 c6 (xs ++ [(n, s, s)]) O6.out.reads (by have := HL.out; simp; omega) HB.out).mono ?_
   rintro e wc ⟨A9, c9, rfl, h1, h2, h3⟩
   rw [HRR.out] at h1 ⊢
   have O9 := Lib.hid h1
   have N9 : Hid (∀ a, A9 = some a → w.heap.size ≤ a.block) := Lib.hid (fun a ha => by have := h2 a ha; have := (C0.out.trans C.out).size; omega)
   replace C := Lib.hid (C.out.trans h3)
   clear h1 h2 h3 EL
   refine hK.out _ _ (DX.out _ C.out) (fun hHeld => ?_)
   clear hK K
   try simp only [Act.put, sA, s0, s1]
   refine sy 13 27 rfl rfl ?_ (hS := (DX.out _ C.out))
   try simp only [Act.put, sA, s0, s1]
   refine sy 14 28 rfl rfl ?_ (hS := (DX.out _ C.out))
   try simp only [Act.put, sA, s0, s1]
   refine sy 15 4 rfl rfl ?_ (hS := (DX.out _ C.out))
   try simp only [Act.put, sA, s0, s1]
   refine sy 16 5 rfl rfl ?_ (hS := (DX.out _ C.out))
   try simp only [Act.put, sA, s0, s1]
   refine wpAnyH_done (by kernel_rfl) ?_ _
   clear hHeld
   go_wp2
   go_ret2
   exact ⟨A9, c9, rfl, O9.out, N9.out, C0.out.trans C.out⟩
  ·
   skip
   replace hK := Lib.hid hK
   have hHeld := DX.out _ C.out
   obtain ⟨q0, q1⟩ := hHeld
   obtain ⟨px, hpp⟩ : ∃ p, wc.heap.size = p := ⟨_, rfl⟩
   have SZpx := Lib.hid (sized C.out hpp)
   have NSpx := Lib.hid hpp
   clear hpp
   go_simp
   clear q0 q1
   obtain ⟨wc, hw, cn, bn⟩ := news1 wc (.cells #[.int .i64 n, .int .i64 s, .int .i64 s] 62)
   rw [← hw, NSpx.out]
   rw [NSpx.out] at bn
   have XR := Lib.hid (rd_oneS (x := (n, s, s)) bn)
   have LTpx := Lib.hid (lt_of_heap bn)
   replace C := Lib.hid (C.out.trans cn)
   try replace EO := Lib.hid (EO.out.chg cn (by simp))
   try replace O5 := Lib.hid (O5.out.chg cn (by simp))
   try have NE : Hid (px ≠ pe) := Lib.hid (by have := NSpx.out; have := LTpe.out; omega)
   clear hw cn bn
   refine hK.out _ _ (DX.out _ C.out) (fun hHeld => ?_)
   clear hK K
   try simp only [Act.put, sA, s0, s1]
   refine wpAnyH_ready (rs := [2]) (by kernel_rfl) (by simp) ?_
   refine AllReadyH.cons rfl (fun K hK => ?_) AllReadyH.nil
   replace hK := Lib.hid hK
   refine step_appK (R := spanTy) rfl (.tmp 14) (.tmp 15) rfl rfl (A := some ⟨pe, 0, none⟩) (B := A) (n := 0) (m := xs.length) (c := 0) (d := c) (xs := []) (ys := xs) EO.out rfl rfl (R1.out _ C.out) N1.out ?_
   rw [Nat.zero_add]
   intro A5 c5 wc o5 g5 e5
   have O5 := Lib.hid o5
   have F5 := Lib.hid (fresh_appS SZpe.out C.out g5 e5)
   replace C := Lib.hid F5.out.2
   try replace XR := Lib.hid (rd_overS XR.out NE.out g5)
   clear o5 g5 e5
   refine hK.out _ _ (DX.out _ C.out) (fun hHeld => ?_)
   clear hK K
   try simp only [Act.put, sA, s0, s1]
   refine wpAnyH_ready (rs := [11]) (by kernel_rfl) (by simp) ?_
   refine AllReadyH.cons rfl (fun K hK => ?_) AllReadyH.nil
   replace hK := Lib.hid hK
   refine step_appK (R := spanTy) rfl (.tmp 16) (.tmp 24) rfl rfl (A := A5) (B := some ⟨px, 0, none⟩) (n := xs.length) (m := 1) (c := c5) (d := 1) (xs := [] ++ xs) (ys := [(n, s, s)]) O5.out (by simp) rfl XR.out N2.out ?_
   intro A6 c6 wc o6 g6 e6
   have O6 := Lib.hid o6
   rw [List.nil_append] at O6
   have F6 := Lib.hid (fresh_appS F5.out.1 C.out g6 e6)
   replace C := Lib.hid F6.out.2
   clear o6 g6 e6
   refine hK.out _ _ (DX.out _ C.out) (fun hHeld => ?_)
   clear hK K
   try simp only [Act.put, sA, s0, s1]
   refine wpAnyH_ready (rs := [12]) (by kernel_rfl) (by simp) ?_
   refine AllReadyH.cons rfl (fun K hK => ?_) AllReadyH.nil
   replace hK := Lib.hid hK
   go_simp
   have EL : xs.length + 1 = (xs ++ [(n, s, s)]).length := by simp
   rw [EL]
   refine (qtidy_any wc A6 c6 (xs ++ [(n, s, s)]) O6.out.reads (by have := HL.out; simp; omega) HB.out).mono ?_
   rintro e wc ⟨A9, c9, rfl, h1, h2, h3⟩
   rw [HRR.out] at h1 ⊢
   have O9 := Lib.hid h1
   have N9 : Hid (∀ a, A9 = some a → w.heap.size ≤ a.block) := Lib.hid (fun a ha => by have := h2 a ha; have := (C0.out.trans C.out).size; omega)
   replace C := Lib.hid (C.out.trans h3)
   clear h1 h2 h3 EL
   refine hK.out _ _ (DX.out _ C.out) (fun hHeld => ?_)
   clear hK K
   try simp only [Act.put, sA, s0, s1]
   refine sy 13 27 rfl rfl ?_ (hS := (DX.out _ C.out))
   try simp only [Act.put, sA, s0, s1]
   refine sy 14 28 rfl rfl ?_ (hS := (DX.out _ C.out))
   try simp only [Act.put, sA, s0, s1]
   refine sy 15 4 rfl rfl ?_ (hS := (DX.out _ C.out))
   try simp only [Act.put, sA, s0, s1]
   refine sy 16 5 rfl rfl ?_ (hS := (DX.out _ C.out))
   try simp only [Act.put, sA, s0, s1]
   refine wpAnyH_done (by kernel_rfl) ?_ _
   clear hHeld
   go_wp2
   go_ret2
   exact ⟨A9, c9, rfl, O9.out, N9.out, C0.out.trans C.out⟩
 ·
  skip
  replace hK := Lib.hid hK
  have hHeld := DX.out _ C.out
  obtain ⟨q0, q1⟩ := hHeld
  obtain ⟨px, hpp⟩ : ∃ p, wc.heap.size = p := ⟨_, rfl⟩
  have SZpx := Lib.hid (sized C.out hpp)
  have NSpx := Lib.hid hpp
  clear hpp
  go_simp
  clear q0 q1
  obtain ⟨wc, hw, cn, bn⟩ := news1 wc (.cells #[.int .i64 n, .int .i64 s, .int .i64 s] 62)
  rw [← hw, NSpx.out]
  rw [NSpx.out] at bn
  have XR := Lib.hid (rd_oneS (x := (n, s, s)) bn)
  have LTpx := Lib.hid (lt_of_heap bn)
  replace C := Lib.hid (C.out.trans cn)
  try replace EO := Lib.hid (EO.out.chg cn (by simp))
  try replace O5 := Lib.hid (O5.out.chg cn (by simp))
  try have NE : Hid (px ≠ pe) := Lib.hid (by have := NSpx.out; have := LTpe.out; omega)
  clear hw cn bn
  refine hK.out _ _ (DX.out _ C.out) (fun hHeld => ?_)
  clear hK K
  try simp only [Act.put, sA, s0, s1]
  refine wpAnyH_ready (rs := [0]) (by kernel_rfl) (by simp) ?_
  refine AllReadyH.cons rfl (fun K hK => ?_) AllReadyH.nil
  replace hK := Lib.hid hK
  have hHeld := DX.out _ C.out
  obtain ⟨q0, q1⟩ := hHeld
  obtain ⟨pe, hpp⟩ : ∃ p, wc.heap.size = p := ⟨_, rfl⟩
  have SZpe := Lib.hid (sized C.out hpp)
  have NSpe := Lib.hid hpp
  clear hpp
  go_simp
  clear q0 q1
  obtain ⟨wc, hw, cn, bn⟩ := news1 wc (.cells #[] 62)
  rw [← hw, NSpe.out]
  rw [NSpe.out] at bn
  have EO := Lib.hid (own_emptyS bn)
  have LTpe := Lib.hid (lt_of_heap bn)
  replace C := Lib.hid (C.out.trans cn)
  try replace XR := Lib.hid (XR.out.chg cn (by simp))
  try have NE : Hid (px ≠ pe) := Lib.hid (by have := NSpe.out; have := LTpx.out; omega)
  clear hw cn bn
  refine hK.out _ _ (DX.out _ C.out) (fun hHeld => ?_)
  clear hK K
  try simp only [Act.put, sA, s0, s1]
  refine wpAnyH_ready (rs := [2]) (by kernel_rfl) (by simp) ?_
  refine AllReadyH.cons rfl (fun K hK => ?_) AllReadyH.nil
  replace hK := Lib.hid hK
  refine step_appK (R := spanTy) rfl (.tmp 14) (.tmp 15) rfl rfl (A := some ⟨pe, 0, none⟩) (B := A) (n := 0) (m := xs.length) (c := 0) (d := c) (xs := []) (ys := xs) EO.out rfl rfl (R1.out _ C.out) N1.out ?_
  rw [Nat.zero_add]
  intro A5 c5 wc o5 g5 e5
  have O5 := Lib.hid o5
  have F5 := Lib.hid (fresh_appS SZpe.out C.out g5 e5)
  replace C := Lib.hid F5.out.2
  try replace XR := Lib.hid (rd_overS XR.out NE.out g5)
  clear o5 g5 e5
  refine hK.out _ _ (DX.out _ C.out) (fun hHeld => ?_)
  clear hK K
  try simp only [Act.put, sA, s0, s1]
  refine wpAnyH_ready (rs := [11]) (by kernel_rfl) (by simp) ?_
  refine AllReadyH.cons rfl (fun K hK => ?_) AllReadyH.nil
  replace hK := Lib.hid hK
  refine step_appK (R := spanTy) rfl (.tmp 16) (.tmp 24) rfl rfl (A := A5) (B := some ⟨px, 0, none⟩) (n := xs.length) (m := 1) (c := c5) (d := 1) (xs := [] ++ xs) (ys := [(n, s, s)]) O5.out (by simp) rfl XR.out N2.out ?_
  intro A6 c6 wc o6 g6 e6
  have O6 := Lib.hid o6
  rw [List.nil_append] at O6
  have F6 := Lib.hid (fresh_appS F5.out.1 C.out g6 e6)
  replace C := Lib.hid F6.out.2
  clear o6 g6 e6
  refine hK.out _ _ (DX.out _ C.out) (fun hHeld => ?_)
  clear hK K
  try simp only [Act.put, sA, s0, s1]
  refine wpAnyH_ready (rs := [12]) (by kernel_rfl) (by simp) ?_
  refine AllReadyH.cons rfl (fun K hK => ?_) AllReadyH.nil
  replace hK := Lib.hid hK
  go_simp
  have EL : xs.length + 1 = (xs ++ [(n, s, s)]).length := by simp
  rw [EL]
  refine (qtidy_any wc A6 c6 (xs ++ [(n, s, s)]) O6.out.reads (by have := HL.out; simp; omega) HB.out).mono ?_
  rintro e wc ⟨A9, c9, rfl, h1, h2, h3⟩
  rw [HRR.out] at h1 ⊢
  have O9 := Lib.hid h1
  have N9 : Hid (∀ a, A9 = some a → w.heap.size ≤ a.block) := Lib.hid (fun a ha => by have := h2 a ha; have := (C0.out.trans C.out).size; omega)
  replace C := Lib.hid (C.out.trans h3)
  clear h1 h2 h3 EL
  refine hK.out _ _ (DX.out _ C.out) (fun hHeld => ?_)
  clear hK K
  try simp only [Act.put, sA, s0, s1]
  refine sy 13 27 rfl rfl ?_ (hS := (DX.out _ C.out))
  try simp only [Act.put, sA, s0, s1]
  refine sy 14 28 rfl rfl ?_ (hS := (DX.out _ C.out))
  try simp only [Act.put, sA, s0, s1]
  refine sy 15 4 rfl rfl ?_ (hS := (DX.out _ C.out))
  try simp only [Act.put, sA, s0, s1]
  refine sy 16 5 rfl rfl ?_ (hS := (DX.out _ C.out))
  try simp only [Act.put, sA, s0, s1]
  refine wpAnyH_done (by kernel_rfl) ?_ _
  clear hHeld
  go_wp2
  go_ret2
  exact ⟨A9, c9, rfl, O9.out, N9.out, C0.out.trans C.out⟩
end
section
open Go.RowKit Go.Lib
set_option linter.unusedSimpArgs false
set_option linter.unusedVariables false

set_option maxRecDepth 100000 in
set_option maxHeartbeats 8000000 in
theorem qjoin_any (w : World) (A : Option Addr) (c : Nat) (xs : List Sp) (B : Option Addr) (d : Nat) (ys : List Sp) (h : RdK spanTy w A xs.length xs) (h' : RdK spanTy w B ys.length ys) (hn : xs.length ≤ 140737488351232) (hm : ys.length ≤ 140737488351232) :
  Calls Tryz.prog 90 #[.slice A xs.length c, .slice B ys.length d] w fun e w' => ∃ A' c', e = .returned (.tuple #[.slice A' (joinE xs ys).2.length c', .int .i64 (joinE xs ys).1]) ∧ OwnK spanTy w' A' c' (joinE xs ys).2 ∧ (∀ a, A' = some a → w.heap.size ≤ a.block) ∧ Chg [] w w' := by
 have H := Lib.hid h
 have H' := Lib.hid h'
 have HN := Lib.hid hn
 have HM := Lib.hid hm
 clear h h' hn hm
 rcases chk_two xs with e1 | e1
 rotate_left
 ·
  have EJ : Hid (joinE xs ys = (2, [])) := Lib.hid (by unfold joinE; rw [if_neg (by omega)])
  go_enter Tryz.func90, Tryz.ntmps90
  go_wp2_with fail
  refine (qacheck_any w A _ c xs H.out HN.out).mono ?_
  rintro e w2 ⟨rfl, hc⟩
  rw [e1]
  have C := Lib.hid hc
  clear hc
  go_wp2
  go_ret2
  rw [EJ.out]
  exact ⟨none, 0, rfl, OwnK.none_ _, by simp, C.out⟩
 rcases chk_two ys with e2 | e2
 rotate_left
 ·
  have EJ : Hid (joinE xs ys = (2, [])) := Lib.hid (by unfold joinE; rw [if_neg (by omega)])
  go_enter Tryz.func90, Tryz.ntmps90
  go_wp2_with fail
  refine (qacheck_any w A _ c xs H.out HN.out).mono ?_
  rintro e w2 ⟨rfl, hc⟩
  rw [e1]
  have C := Lib.hid hc
  clear hc
  go_wp2_with fail
  refine (qacheck_any w2 B _ d ys (H'.out.chg C.out (by simp)) HM.out).mono ?_
  rintro e w3 ⟨rfl, hc⟩
  rw [e2]
  replace C := Lib.hid (C.out.trans hc)
  clear hc
  go_wp2
  go_ret2
  rw [EJ.out]
  exact ⟨none, 0, rfl, OwnK.none_ _, by simp, C.out⟩
 have EJ : Hid (joinE xs ys = boundP (tidyS (xs ++ ys))) := Lib.hid (by unfold joinE; rw [if_pos ⟨e1, e2⟩])
 have WX := wf_of_chk e1
 have WD := wf_of_chk e2
 have HL : Hid (xs.length ≤ 4000 ∧ ys.length ≤ 4000) := Lib.hid ⟨WX.2, WD.2⟩
 have HB : Hid (∀ x ∈ xs ++ ys, B3 x) := Lib.hid (fun x hx => by
  rcases List.mem_append.1 hx with q | q
  ·
   have a := WX.1.2 x q; have b := WX.1.1.1 x q; unfold SpOk at b; unfold B3; omega
  ·
   have a := WD.1.2 x q; have b := WD.1.1.1 x q; unfold SpOk at b; unfold B3; omega)
 clear WX WD
 rw [EJ.out]
 clear EJ
 generalize hRR : boundP (tidyS (xs ++ ys)) = RR
 have HRR := Lib.hid hRR
 clear hRR
 go_enter Tryz.func90, Tryz.ntmps90
 go_wp2_with fail
 refine (qacheck_any w A _ c xs H.out HN.out).mono ?_
 rintro e w2 ⟨rfl, hc⟩
 rw [e1]
 have C := Lib.hid hc
 clear hc
 go_wp2_with fail
 refine (qacheck_any w2 B _ d ys (H'.out.chg C.out (by simp)) HM.out).mono ?_
 rintro e w3 ⟨rfl, hc⟩
 rw [e2]
 replace C := Lib.hid (C.out.trans hc)
 clear hc e1 e2
 obtain ⟨w4, hw, cn, bn⟩ := news1 w3 (.cells #[] 62)
 have W4 := Lib.hid hw
 have EO := Lib.hid (own_emptyS bn)
 have SZ := Lib.hid (fun a (ha : (some ⟨w3.heap.size, 0, none⟩ : Option Addr) = some a) => (show w.heap.size ≤ a.block from by cases ha; exact C.out.size))
 replace C := Lib.hid (C.out.trans cn)
 have N1 : Hid ((0 + xs.length) * 400 ≤ 140737488355327) := Lib.hid (by have := HL.out; omega)
 have N2 : Hid ((xs.length + ys.length) * 400 ≤ 140737488355327) := Lib.hid (by have := HL.out; omega)
 clear hw cn bn
 go_wp2_with (first
  | (at_builtin; rw [← W4.out]; refine wpList_appK (R := spanTy) rfl (.tmp 14) (.tmp 15) rfl rfl (A := some ⟨w3.heap.size, 0, none⟩) (n := 0) (c := 0) (xs := []) EO.out rfl rfl (H.out.chg C.out (by simp)) N1.out ?_; rw [Nat.zero_add]; intro A5 c5 w5 o5 g5 e5; have O5 := Lib.hid o5; have F5 := Lib.hid (fresh_appS SZ.out C.out g5 e5); clear o5 g5 e5)
  | (at_builtin; refine wpList_appK (R := spanTy) rfl (.tmp 16) (.tmp 17) rfl rfl (A := A5) (n := xs.length) (c := c5) (xs := [] ++ xs) O5.out (by simp) rfl (H'.out.chg F5.out.2 (by simp)) N2.out ?_; intro A6 c6 w6 o6 g6 e6; have O6 := Lib.hid o6; have F6 := Lib.hid (fresh_appS F5.out.1 F5.out.2 g6 e6); clear o6 g6 e6))
 rw [List.nil_append] at O6
 have EL : xs.length + ys.length = (xs ++ ys).length := by simp
 rw [EL]
 refine (qtidy_any w6 A6 c6 (xs ++ ys) O6.out.reads (by have := HL.out; simp; omega) HB.out).mono ?_
 rintro e w9 ⟨A9, c9, rfl, h1, h2, h3⟩
 rw [HRR.out] at h1 ⊢
 have O9 := Lib.hid h1
 have N9 : Hid (∀ a, A9 = some a → w.heap.size ≤ a.block) := Lib.hid (fun a ha => by have := h2 a ha; have := F6.out.2.size; omega)
 replace C := Lib.hid (F6.out.2.trans h3)
 clear h1 h2 h3 EL
 go_wp2
 go_ret2
 exact ⟨A9, c9, rfl, O9.out, N9.out, C.out⟩
end
section
open Go.RowKit Go.Lib
set_option linter.unusedSimpArgs false
set_option linter.unusedVariables false


set_option maxRecDepth 100000 in
set_option maxHeartbeats 16000000 in
theorem vepast_any (w : World) (A : Option Addr) (c : Nat) (xs : List EvT) (es : List EvP) (h : RdK evTy w A xs.length xs) (hx : EvsR w xs es) (hn : xs.length ≤ 100000) (hs : ∀ e ∈ es, EvSm e) (hl : (allsE es).length ≤ 4000) :
  Calls Tryz.prog 31 #[.slice A xs.length c] w fun r w' => ∃ A' c', r = .returned (.tuple #[.slice A' (pastE es).2.length c', .int .i64 (pastE es).1]) ∧ OwnK spanTy w' A' c' (pastE es).2 ∧ (∀ a, A' = some a → w.heap.size ≤ a.block) ∧ Chg [] w w' := by

 have HA := Lib.hid h
 have HX := Lib.hid hx
 have HN := Lib.hid hn
 have HS := Lib.hid hs
 have HL := Lib.hid hl
 clear h hx hn hs hl
 go_enter Tryz.func31, Tryz.ntmps31
 go_wp2
 go_loopw [5] (fun v5 wr => ∃ (k : Nat), k ≤ xs.length ∧ v5 = .int .i64 k ∧ Hid (okAll (es.take k) = true) ∧ Hid (Chg [] w wr)) (fun v5 _ => xs.length - (RowKit.intOf v5).toNat)
 case atStart => exact ⟨0, Nat.zero_le _, rfl, Lib.hid rfl, Chg.refl _ _⟩
 case round =>
  obtain ⟨k, hk, rfl, OKK, PC⟩ := hrel
  have j0 : (0 : Int) ≤ (k : Int) := by omega
  by_cases hlt : k < xs.length
  ·
   have j1 : (k : Int) < (xs.length : Int) := by omega
   have j3 : IntKind.i64.wrap ((k : Int) + 1) = (k : Int) + 1 := IntWalk.i64_in _ (by have := HN.out; omega)
   obtain ⟨g3, o3, eA, _⟩ := HA.out.line (by omega)
   subst eA
   obtain ⟨x, e, ex, ee, rx⟩ := HX.out.at_ hlt
   obtain ⟨z0, z1, z2, z3, z4, z5, z6⟩ := evCells (HA.out.chg PC.out (by simp)) ex
   have RX := Lib.hid (rx.chg PC.out)
   have ES := Lib.hid (HS.out e (List.mem_of_getElem? ee))
   have EE := Lib.hid ee
   clear ex ee rx
   go_wp2_with fail
   clear z0 z1 z2 z3 z4 z5 z6
   refine (vecheck_any wr x e RX.out ES.out).mono ?_
   rintro r w6 ⟨rfl, hc⟩
   replace PC := Lib.hid (PC.out.trans hc)
   clear hc RX
   rcases chkEv_two e with e1 | e1
   rotate_left
   ·
    have NO : Hid (pastE es = (2, [])) := Lib.hid (by unfold pastE; rw [okAll_no EE.out (by omega)]; rfl)
    rw [e1]
    clear e1
    go_wp2
    go_ret2
    rw [NO.out]
    exact ⟨none, 0, rfl, OwnK.none_ _, by simp, PC.out⟩
   have OT : Hid (okAll (es.take (k + 1)) = true) := Lib.hid (by rw [okAll_take EE.out, OKK.out, e1]; rfl)
   rw [e1]
   clear e1
   go_wp2
   go_round
   case rel => exact ⟨k + 1, by omega, by go_num, OT, PC⟩
   case measure => simp [RowKit.intOf]; omega
  ·
   obtain rfl : k = xs.length := by omega
   have j1 : ¬ (xs.length : Int) < (xs.length : Int) := by omega
   have ET : es.take xs.length = es := by rw [HX.out.1]; exact List.take_length
   rw [ET] at OKK
   clear ET
   have PE : Hid (pastE es = (0, tidyS (allsE es))) := Lib.hid (by unfold pastE; rw [if_pos OKK.out, bound_le (Nat.le_trans (tidy_len _) HL.out)])
   go_wp2
   go_loopw [4, 6] (fun v4 v6 wq => ∃ (k : Nat) (A2 : Option Addr) (c2 : Nat), k ≤ xs.length ∧ v6 = .int .i64 k ∧ v4 = .slice A2 (tidyS (allsE (es.take k))).length c2 ∧ Hid (OwnK spanTy wq A2 c2 (tidyS (allsE (es.take k)))) ∧ Hid (∀ a, A2 = some a → w.heap.size ≤ a.block) ∧ Hid (chkS (tidyS (allsE (es.take k))) = 0) ∧ Hid (Chg [] w wq)) (fun _ v6 _ => xs.length - (RowKit.intOf v6).toNat)
   case atStart => exact ⟨0, none, 0, Nat.zero_le _, rfl, rfl, OwnK.none_ _, Lib.hid (by simp), Lib.hid rfl, PC⟩
   case round =>
    clear PC
    obtain ⟨k, A2, c2, hk, rfl, rfl, PO, PN, CK, PC⟩ := hrel
    have j0 : (0 : Int) ≤ (k : Int) := by omega
    by_cases hlt : k < xs.length
    ·
     have j1 : (k : Int) < (xs.length : Int) := by omega
     have j3 : IntKind.i64.wrap ((k : Int) + 1) = (k : Int) + 1 := IntWalk.i64_in _ (by have := HN.out; omega)
     obtain ⟨g3, o3, eA, _⟩ := HA.out.line (by omega)
     subst eA
     obtain ⟨x, e, ex, ee, rx⟩ := HX.out.at_ hlt
     have EX := Lib.hid ex
     have RX := Lib.hid rx
     have TK : es.take (k + 1) = es.take k ++ [e] := by rw [List.take_add_one, ee]; rfl
     have okE : chkEv e = 0 := okAll_iff.1 OKK.out e (List.mem_of_getElem? ee)
     have okT : okAll (es.take k) = true := okAll_iff.2 (fun y hy => okAll_iff.1 OKK.out y (List.mem_of_mem_take hy))
     have le := alls_le es (k + 1)
     rw [TK, alls_snoc, List.length_append, List.length_cons] at le
     have ST := past_step okT okE (by have := HL.out; omega) CK.out
     rw [← TK] at ST
     have J1 := Lib.hid ST.1
     have J3 : Hid (joinE (tidyS (tidyS (allsE (es.take k)) ++ e.q)) [(x.n, x.s, x.s)] = (0, tidyS (allsE (es.take (k + 1))))) := Lib.hid (by rw [rx.n, rx.s]; exact ST.2.2.1)
     have CK1 := Lib.hid ST.2.2.2.1
     have L1 : Hid ((tidyS (allsE (es.take k))).length ≤ 140737488351232) := Lib.hid (by have := tidy_len (allsE (es.take k)); have := HL.out; omega)
     have L2 : Hid (e.q.length ≤ 140737488351232) := Lib.hid (by have := HL.out; omega)
     have L3 : Hid ((tidyS (tidyS (allsE (es.take k)) ++ e.q)).length ≤ 140737488351232) := Lib.hid (by have := ST.2.1; omega)
     have XB : Hid (x.bl = e.q.length) := Lib.hid rx.bl
     clear ex ee rx okE okT le ST TK CK
     generalize ht3 : tidyS (allsE (es.take (k + 1))) = t3 at *
     have T3 := Lib.hid ht3
     clear ht3
     generalize tidyS (tidyS (allsE (es.take k)) ++ e.q) = t2 at *
     generalize tidyS (allsE (es.take k)) = t1 at *
     obtain ⟨z0, z1, z2, z3, z4, z5, z6⟩ := evCells (HA.out.chg PC.out (by simp)) EX.out
     go_wp2_with fail
     clear z0 z1 z2 z3 z4 z5 z6
     have RB : Hid (RdK spanTy wr x.B e.q.length e.q) := Lib.hid (by have := (RX.out.chg PC.out).B; rwa [XB.out] at this)
     rw [XB.out]
     refine (qjoin_any wr A2 c2 t1 x.B x.bc e.q PO.out.reads RB.out L1.out L2.out).mono ?_
     rintro r w4 ⟨A3, c3, rfl, o3, n3, hc⟩
     rw [J1.out] at o3 ⊢
     have O3 := Lib.hid o3
     replace PC := Lib.hid (PC.out.trans hc)
     clear o3 n3 hc PO PN RB
     obtain ⟨z0, z1, z2, z3, z4, z5, z6⟩ := evCells (HA.out.chg PC.out (by simp)) EX.out
     go_wp2_with fail
     clear z0 z1 z2 z3 z4 z5 z6
     refine (qadd_any w4 A3 c3 t2 x.n x.s O3.out.reads L3.out).mono ?_
     rintro r w5 ⟨A4, c4, rfl, o4, n4, hc⟩
     rw [J3.out] at o4 ⊢
     have O4 := Lib.hid o4
     have N4 : Hid (∀ a, A4 = some a → w.heap.size ≤ a.block) := Lib.hid (fun a ha => Nat.le_trans PC.out.size (n4 a ha))
     replace PC := Lib.hid (PC.out.trans hc)
     clear o4 n4 hc O3
     go_wp2
     go_round
     case rel => exact ⟨k + 1, A4, c4, by omega, by go_num, by rw [T3.out], by rw [T3.out]; exact O4, N4, by rw [T3.out]; exact CK1, PC⟩
     case measure => simp [RowKit.intOf]; omega
    ·
     obtain rfl : k = xs.length := by omega
     have j1 : ¬ (xs.length : Int) < (xs.length : Int) := by omega
     have ET : es.take xs.length = es := by rw [HX.out.1]; exact List.take_length
     rw [ET] at PO ⊢
     clear ET
     go_wp2
     go_ret2
     rw [PE.out]
     exact ⟨A2, c2, rfl, PO.out, PN.out, PC.out⟩
end
end Go.Proofs.YtgbidlhgmeglmaaGreatDoor
