/- The document's reader: Raw and Text. The document's writer and reader, made since a world w. The document's effects: Check, Same, Less, Size, Bytes. The document's Check of an event. The document's Ahead. -/
import Derived.Test.YtomgjogkkoigbaaGreatDoorZspv
import Derived.Test.YtomgjogkkoigbaaGreatDoorZspb
import Derived.Deep.RegionHeld3
import Derived.Deep.AppendLies
import Derived.Test.YtomgjogkkoigbaaGreatDoorZspm
import Derived.Test.YtomgjogkkoigbaaGreatDoorZspd
import Derived.Test.YtomgjogkkoigbaaGreatDoorZspr
import Derived.Test.YtomgjogkkoigbaaGreatDoorZspk
import Derived.Deep.Cut
set_option linter.unusedSimpArgs false
set_option linter.unusedVariables false
namespace Go.Proofs.YtomgjogkkoigbaaGreatDoor
section
open Go.RowKit

set_option maxHeartbeats 4000000 in
theorem fcheck_any (w : World) (k m : Int) (A : Option Addr) (n c : Nat) (hn : n ≤ 140737488351232) :
  Calls Tryz.prog 110 #[.agg #[.int .i64 k, .int .i64 m, .slice A n c]] w fun e w' => e = .returned (.int .i64 (chkE k m n)) ∧ Chg [] w w' := by
 have go : ∀ v, chkE k m n = v → Calls Tryz.prog 110 #[.agg #[.int .i64 k, .int .i64 m, .slice A n c]] w (fun e w' => e = .returned (.int .i64 v) ∧ Chg [] w w') → Calls Tryz.prog 110 #[.agg #[.int .i64 k, .int .i64 m, .slice A n c]] w fun e w' => e = .returned (.int .i64 (chkE k m n)) ∧ Chg [] w w' := fun v hv h => hv ▸ h
 by_cases h1 : k = 1
 ·
  subst h1
  by_cases m0 : m < 0
  ·
   refine go 2 (chkE_odd (by unfold Fine; omega)) ?_
   have m0' : ¬ 0 ≤ m := by omega
   clear go
   go_enter Tryz.func110, Tryz.ntmps110
   go_wp2; go_ret
   exact ⟨rfl, (Chg.refl _ _).alloc _⟩
  have m0' : 0 ≤ m := by omega
  by_cases m1 : 511 < m
  ·
   refine go 2 (chkE_odd (by unfold Fine; omega)) ?_
   have m1' : ¬ m ≤ 511 := by omega
   clear go
   go_enter Tryz.func110, Tryz.ntmps110
   go_wp2; go_ret
   exact ⟨rfl, (Chg.refl _ _).alloc _⟩
  have m1' : m ≤ 511 := by omega
  by_cases n1 : 1000 < n
  ·
   refine go 2 (chkE_odd (by unfold Fine; omega)) ?_
   have n1' : decide ((n : Int) ≤ 1000) = false := by simp; omega
   clear go
   go_enter Tryz.func110, Tryz.ntmps110
   go_wp2; go_ret
   exact ⟨rfl, (Chg.refl _ _).alloc _⟩
  ·
   refine go 0 (chkE_fine (by unfold Fine; omega)) ?_
   have n1' : decide ((n : Int) ≤ 1000) = true := by simp; omega
   clear go
   go_enter Tryz.func110, Tryz.ntmps110
   go_wp2; go_ret
   exact ⟨rfl, (Chg.refl _ _).alloc _⟩
 have h1' : (k == 1) = false := by simpa using h1
 by_cases h2 : k = 2
 ·
  subst h2
  by_cases m0 : m < 0
  ·
   refine go 2 (chkE_odd (by unfold Fine; omega)) ?_
   have m0' : ¬ 0 ≤ m := by omega
   clear go
   go_enter Tryz.func110, Tryz.ntmps110
   go_wp2; go_ret
   exact ⟨rfl, (Chg.refl _ _).alloc _⟩
  have m0' : 0 ≤ m := by omega
  by_cases m1 : 511 < m
  ·
   refine go 2 (chkE_odd (by unfold Fine; omega)) ?_
   have m1' : ¬ m ≤ 511 := by omega
   clear go
   go_enter Tryz.func110, Tryz.ntmps110
   go_wp2; go_ret
   exact ⟨rfl, (Chg.refl _ _).alloc _⟩
  have m1' : m ≤ 511 := by omega
  by_cases n1 : n = 0
  ·
   subst n1
   refine go 0 (chkE_fine (by unfold Fine; omega)) ?_
   clear go
   go_enter Tryz.func110, Tryz.ntmps110
   go_wp2; go_ret
   exact ⟨rfl, (Chg.refl _ _).alloc _⟩
  ·
   refine go 2 (chkE_odd (by unfold Fine; omega)) ?_
   have n1' : ((n : Int) == 0) = false := by simp; omega
   clear go
   go_enter Tryz.func110, Tryz.ntmps110
   go_wp2; go_ret
   exact ⟨rfl, (Chg.refl _ _).alloc _⟩
 have h2' : (k == 2) = false := by simpa using h2
 by_cases h3 : k = 3
 ·
  subst h3
  by_cases m0 : m = 0
  ·
   subst m0
   by_cases n1 : n = 0
   ·
    subst n1
    refine go 0 (chkE_fine (by unfold Fine; omega)) ?_
    clear go
    go_enter Tryz.func110, Tryz.ntmps110
    go_wp2; go_ret
    exact ⟨rfl, (Chg.refl _ _).alloc _⟩
   ·
    refine go 2 (chkE_odd (by unfold Fine; omega)) ?_
    have n1' : ((n : Int) == 0) = false := by simp; omega
    clear go
    go_enter Tryz.func110, Tryz.ntmps110
    go_wp2; go_ret
    exact ⟨rfl, (Chg.refl _ _).alloc _⟩
  ·
   refine go 2 (chkE_odd (by unfold Fine; omega)) ?_
   have m0' : (m == 0) = false := by simpa using m0
   clear go
   go_enter Tryz.func110, Tryz.ntmps110
   go_wp2; go_ret
   exact ⟨rfl, (Chg.refl _ _).alloc _⟩
 have h3' : (k == 3) = false := by simpa using h3
 refine go 2 (chkE_odd (by unfold Fine; omega)) ?_
 clear go
 go_enter Tryz.func110, Tryz.ntmps110
 go_wp2; go_ret
 exact ⟨rfl, (Chg.refl _ _).alloc _⟩
end
section
open Go.RowKit Go.Lib


set_option maxRecDepth 100000 in
set_option maxHeartbeats 8000000 in
theorem vecheck_0 (w : World) (x : EvT) (e : EvP) (h : EvR w x e) (hs : EvSm e) (hk : ∀ i, i < 0 → evOk e i) (hn : ¬ evOk e 0) :
  Calls Tryz.prog 49 #[.agg #[.int .i64 x.n, .int .i64 x.s, .string x.p, .int .i64 x.k, .int .i64 x.m, .slice x.A x.l x.c, .slice x.B x.bl x.bc]] w fun r w' => r = .returned (.int .i64 2) ∧ Chg [] w w' := by
 obtain ⟨w1, hw1, c1, b1⟩ := news1 w (.cells #[.int .i64 x.n, .int .i64 x.s, .string x.p, .int .i64 x.k, .int .i64 x.m, .slice x.A x.l x.c, .slice x.B x.bl x.bc] 30)
 have W1 := Lib.hid hw1
 have HR := Lib.hid (h.chg c1)
 have C := Lib.hid c1
 have HS := Lib.hid hs
 have k0 : Hid (¬ evOk e 0) := Lib.hid hn
 have hxn := h.n
 have hxs := h.s
 have hxp := h.p
 have hxk := h.k
 have hxm := h.m
 have hxl := h.l
 have hxbl := h.bl
 rw [hxn, hxs, hxp, hxk, hxm, hxl, hxbl] at b1 W1
 rw [hxn, hxs, hxp, hxk, hxm, hxl, hxbl]
 clear hxn hxs hxp hxk hxm hxl hxbl
 have z0 := cell_of b1 0
 have z1 := cell_of b1 1
 have z2 := cell_of b1 2
 have z3 := cell_of b1 3
 have z4 := cell_of b1 4
 have z5 := cell_of b1 5
 have z6 := cell_of b1 6
 simp only [List.getElem?_toArray, List.getElem?_cons_succ, List.getElem?_cons_zero] at z0 z1 z2 z3 z4 z5 z6
 clear hw1 c1 h hs hk hn b1
 go_enter Tryz.func49, Tryz.ntmps49
 go_upto_region 1 with fail
 rw [← W1.out]
 generalize w.heap.size = g0 at *
 refine wp_region_held_drew (S := fun w' => w'.cell? ⟨g0, 0, none⟩ = some (.int .i64 e.n) ∧ w'.cell? ⟨g0, 1, none⟩ = some (.int .i64 e.s) ∧ w'.cell? ⟨g0, 2, none⟩ = some (.string (strOf e.p)) ∧ w'.cell? ⟨g0, 3, none⟩ = some (.int .i64 e.k) ∧ w'.cell? ⟨g0, 4, none⟩ = some (.int .i64 e.m) ∧ w'.cell? ⟨g0, 5, none⟩ = some (.slice x.A e.b.length x.c) ∧ w'.cell? ⟨g0, 6, none⟩ = some (.slice x.B e.q.length x.bc)) (by kernel_rfl) ⟨z0, z1, z2, z3, z4, z5, z6⟩ (fun hHeld => ?_)
 have CC : Hid (Chg [] w1 w1.drew) := Lib.hid (Chg.refl [] w1).drew
 have DX : Hid (∀ w', Chg [] w1 w' → w'.cell? ⟨g0, 0, none⟩ = some (.int .i64 e.n) ∧ w'.cell? ⟨g0, 1, none⟩ = some (.int .i64 e.s) ∧ w'.cell? ⟨g0, 2, none⟩ = some (.string (strOf e.p)) ∧ w'.cell? ⟨g0, 3, none⟩ = some (.int .i64 e.k) ∧ w'.cell? ⟨g0, 4, none⟩ = some (.int .i64 e.m) ∧ w'.cell? ⟨g0, 5, none⟩ = some (.slice x.A e.b.length x.c) ∧ w'.cell? ⟨g0, 6, none⟩ = some (.slice x.B e.q.length x.bc)) := Lib.hid (fun w' hc => ⟨hc.cell z0 (by simp), hc.cell z1 (by simp), hc.cell z2 (by simp), hc.cell z3 (by simp), hc.cell z4 (by simp), hc.cell z5 (by simp), hc.cell z6 (by simp)⟩)
 clear z0 z1 z2 z3 z4 z5 z6 hHeld W1
 generalize w1.drew = wc at *
 refine sy 0 3 rfl rfl ?_ (hS := (DX.out _ CC.out))
 try simp only [Act.put, sA, s0, s1]
 refine sy 1 4 rfl rfl ?_ (hS := (DX.out _ CC.out)) (hy := by (intro w hSw; (try dsimp only at hSw); obtain ⟨q0, q1, q2, q3, q4, q5, q6⟩ := hSw; go_simp; try with_reducible rfl))
 try simp only [Act.put, sA, s0, s1]
 refine wpAnyH_ready (rs := [2]) (by kernel_rfl) (by simp) ?_; refine AllReadyH.cons rfl (fun K hK => ?_) AllReadyH.nil; replace hK := Lib.hid hK; go_simp
 refine (hcheck_dot wc e.n e.s).mono ?_
 rintro r wc ⟨rfl, hc⟩
 rw [chk_dot, if_neg (show ¬ FineQ e.n e.s from fun q => k0.out (chkD_fine q))]
 replace CC := Lib.hid (CC.out.trans hc)
 clear hc
 refine hK.out _ _ (DX.out _ CC.out) (fun hHeld => ?_)
 clear hK K; try simp only [Act.put, sA, s0, s1]
 refine sy 3 6 rfl rfl ?_ (hS := (DX.out _ CC.out))
 try simp only [Act.put, sA, s0, s1]
 refine sy 4 7 rfl rfl ?_ (hS := (DX.out _ CC.out))
 try simp only [Act.put, sA, s0, s1]
 refine sn 5 8 rfl rfl ?_ (hS := (DX.out _ CC.out))
 try simp only [Act.put, sA, s0, s1]
 refine sn 6 9 rfl rfl ?_ (hS := (DX.out _ CC.out))
 try simp only [Act.put, sA, s0, s1]
 refine sn 7 10 rfl rfl ?_ (hS := (DX.out _ CC.out))
 try simp only [Act.put, sA, s0, s1]
 refine sn 8 11 rfl rfl ?_ (hS := (DX.out _ CC.out))
 try simp only [Act.put, sA, s0, s1]
 refine sy 9 12 rfl rfl ?_ (hS := (DX.out _ CC.out))
 try simp only [Act.put, sA, s0, s1]
 refine sy 10 13 rfl rfl ?_ (hS := (DX.out _ CC.out))
 try simp only [Act.put, sA, s0, s1]
 refine sn 11 14 rfl rfl ?_ (hS := (DX.out _ CC.out))
 try simp only [Act.put, sA, s0, s1]
 refine sn 12 15 rfl rfl ?_ (hS := (DX.out _ CC.out))
 try simp only [Act.put, sA, s0, s1]
 refine sn 13 16 rfl rfl ?_ (hS := (DX.out _ CC.out))
 try simp only [Act.put, sA, s0, s1]
 refine sn 14 17 rfl rfl ?_ (hS := (DX.out _ CC.out))
 try simp only [Act.put, sA, s0, s1]
 refine sy 15 18 rfl rfl ?_ (hS := (DX.out _ CC.out))
 try simp only [Act.put, sA, s0, s1]
 refine sy 16 19 rfl rfl ?_ (hS := (DX.out _ CC.out))
 try simp only [Act.put, sA, s0, s1]
 refine sn 17 20 rfl rfl ?_ (hS := (DX.out _ CC.out))
 try simp only [Act.put, sA, s0, s1]
 refine sn 18 21 rfl rfl ?_ (hS := (DX.out _ CC.out))
 try simp only [Act.put, sA, s0, s1]
 refine sn 19 22 rfl rfl ?_ (hS := (DX.out _ CC.out))
 try simp only [Act.put, sA, s0, s1]
 refine sn 20 23 rfl rfl ?_ (hS := (DX.out _ CC.out))
 try simp only [Act.put, sA, s0, s1]
 refine sy 21 24 rfl rfl ?_ (hS := (DX.out _ CC.out))
 try simp only [Act.put, sA, s0, s1]
 refine sy 22 25 rfl rfl ?_ (hS := (DX.out _ CC.out))
 try simp only [Act.put, sA, s0, s1]
 refine sn 23 26 rfl rfl ?_ (hS := (DX.out _ CC.out))
 try simp only [Act.put, sA, s0, s1]
 refine sn 24 27 rfl rfl ?_ (hS := (DX.out _ CC.out))
 try simp only [Act.put, sA, s0, s1]
 refine sn 25 28 rfl rfl ?_ (hS := (DX.out _ CC.out))
 try simp only [Act.put, sA, s0, s1]
 refine sn 26 29 rfl rfl ?_ (hS := (DX.out _ CC.out))
 try simp only [Act.put, sA, s0, s1]
 refine sn 27 30 rfl rfl ?_ (hS := (DX.out _ CC.out))
 try simp only [Act.put, sA, s0, s1]
 refine sn 28 31 rfl rfl ?_ (hS := (DX.out _ CC.out))
 try simp only [Act.put, sA, s0, s1]
 refine sn 29 32 rfl rfl ?_ (hS := (DX.out _ CC.out))
 try simp only [Act.put, sA, s0, s1]
 refine sn 30 33 rfl rfl ?_ (hS := (DX.out _ CC.out))
 try simp only [Act.put, sA, s0, s1]
 refine sn 31 34 rfl rfl ?_ (hS := (DX.out _ CC.out))
 try simp only [Act.put, sA, s0, s1]
 refine sn 32 35 rfl rfl ?_ (hS := (DX.out _ CC.out))
 try simp only [Act.put, sA, s0, s1]
 refine sy 33 36 rfl rfl ?_ (hS := (DX.out _ CC.out))
 try simp only [Act.put, sA, s0, s1]
 refine wpAnyH_done (by kernel_rfl) ?_ _; clear hHeld; go_wp2; go_ret
 exact ⟨rfl, C.out.trans CC.out⟩

set_option maxRecDepth 100000 in
set_option maxHeartbeats 8000000 in
theorem vecheck_1 (w : World) (x : EvT) (e : EvP) (h : EvR w x e) (hs : EvSm e) (hk : ∀ i, i < 1 → evOk e i) (hn : ¬ evOk e 1) :
  Calls Tryz.prog 49 #[.agg #[.int .i64 x.n, .int .i64 x.s, .string x.p, .int .i64 x.k, .int .i64 x.m, .slice x.A x.l x.c, .slice x.B x.bl x.bc]] w fun r w' => r = .returned (.int .i64 2) ∧ Chg [] w w' := by
 obtain ⟨w1, hw1, c1, b1⟩ := news1 w (.cells #[.int .i64 x.n, .int .i64 x.s, .string x.p, .int .i64 x.k, .int .i64 x.m, .slice x.A x.l x.c, .slice x.B x.bl x.bc] 30)
 have W1 := Lib.hid hw1
 have HR := Lib.hid (h.chg c1)
 have C := Lib.hid c1
 have HS := Lib.hid hs
 have k0 : Hid (evOk e 0) := Lib.hid (hk 0 (by omega))
 have k1 : Hid (¬ evOk e 1) := Lib.hid hn
 have hxn := h.n
 have hxs := h.s
 have hxp := h.p
 have hxk := h.k
 have hxm := h.m
 have hxl := h.l
 have hxbl := h.bl
 rw [hxn, hxs, hxp, hxk, hxm, hxl, hxbl] at b1 W1
 rw [hxn, hxs, hxp, hxk, hxm, hxl, hxbl]
 clear hxn hxs hxp hxk hxm hxl hxbl
 have z0 := cell_of b1 0
 have z1 := cell_of b1 1
 have z2 := cell_of b1 2
 have z3 := cell_of b1 3
 have z4 := cell_of b1 4
 have z5 := cell_of b1 5
 have z6 := cell_of b1 6
 simp only [List.getElem?_toArray, List.getElem?_cons_succ, List.getElem?_cons_zero] at z0 z1 z2 z3 z4 z5 z6
 clear hw1 c1 h hs hk hn b1
 go_enter Tryz.func49, Tryz.ntmps49
 go_upto_region 1 with fail
 rw [← W1.out]
 generalize w.heap.size = g0 at *
 refine wp_region_held_drew (S := fun w' => w'.cell? ⟨g0, 0, none⟩ = some (.int .i64 e.n) ∧ w'.cell? ⟨g0, 1, none⟩ = some (.int .i64 e.s) ∧ w'.cell? ⟨g0, 2, none⟩ = some (.string (strOf e.p)) ∧ w'.cell? ⟨g0, 3, none⟩ = some (.int .i64 e.k) ∧ w'.cell? ⟨g0, 4, none⟩ = some (.int .i64 e.m) ∧ w'.cell? ⟨g0, 5, none⟩ = some (.slice x.A e.b.length x.c) ∧ w'.cell? ⟨g0, 6, none⟩ = some (.slice x.B e.q.length x.bc)) (by kernel_rfl) ⟨z0, z1, z2, z3, z4, z5, z6⟩ (fun hHeld => ?_)
 have CC : Hid (Chg [] w1 w1.drew) := Lib.hid (Chg.refl [] w1).drew
 have DX : Hid (∀ w', Chg [] w1 w' → w'.cell? ⟨g0, 0, none⟩ = some (.int .i64 e.n) ∧ w'.cell? ⟨g0, 1, none⟩ = some (.int .i64 e.s) ∧ w'.cell? ⟨g0, 2, none⟩ = some (.string (strOf e.p)) ∧ w'.cell? ⟨g0, 3, none⟩ = some (.int .i64 e.k) ∧ w'.cell? ⟨g0, 4, none⟩ = some (.int .i64 e.m) ∧ w'.cell? ⟨g0, 5, none⟩ = some (.slice x.A e.b.length x.c) ∧ w'.cell? ⟨g0, 6, none⟩ = some (.slice x.B e.q.length x.bc)) := Lib.hid (fun w' hc => ⟨hc.cell z0 (by simp), hc.cell z1 (by simp), hc.cell z2 (by simp), hc.cell z3 (by simp), hc.cell z4 (by simp), hc.cell z5 (by simp), hc.cell z6 (by simp)⟩)
 clear z0 z1 z2 z3 z4 z5 z6 hHeld W1
 generalize w1.drew = wc at *
 refine sy 0 3 rfl rfl ?_ (hS := (DX.out _ CC.out))
 try simp only [Act.put, sA, s0, s1]
 refine sy 1 4 rfl rfl ?_ (hS := (DX.out _ CC.out)) (hy := by (intro w hSw; (try dsimp only at hSw); obtain ⟨q0, q1, q2, q3, q4, q5, q6⟩ := hSw; go_simp; try with_reducible rfl))
 try simp only [Act.put, sA, s0, s1]
 refine wpAnyH_ready (rs := [2]) (by kernel_rfl) (by simp) ?_; refine AllReadyH.cons rfl (fun K hK => ?_) AllReadyH.nil; replace hK := Lib.hid hK; go_simp
 refine (hcheck_dot wc e.n e.s).mono ?_
 rintro r wc ⟨rfl, hc⟩
 rw [chk_dot, if_pos (show FineQ e.n e.s from Decidable.byContradiction (fun q => absurd k0.out (by show ¬ chkD e.n e.s = 0; rw [chkD_odd q]; decide)))]
 replace CC := Lib.hid (CC.out.trans hc)
 clear hc
 refine hK.out _ _ (DX.out _ CC.out) (fun hHeld => ?_)
 clear hK K; try simp only [Act.put, sA, s0, s1]
 refine sy 3 6 rfl rfl ?_ (hS := (DX.out _ CC.out))
 try simp only [Act.put, sA, s0, s1]
 refine sy 4 7 rfl rfl ?_ (hS := (DX.out _ CC.out))
 try simp only [Act.put, sA, s0, s1]
 refine sy 5 8 rfl rfl ?_ (hS := (DX.out _ CC.out))
 try simp only [Act.put, sA, s0, s1]
 refine sy 6 9 rfl rfl ?_ (hS := (DX.out _ CC.out)) (hy := by (intro w hSw; (try dsimp only at hSw); obtain ⟨q0, q1, q2, q3, q4, q5, q6⟩ := hSw; go_simp; try with_reducible rfl))
 try simp only [Act.put, sA, s0, s1]
 refine wpAnyH_ready (rs := [7]) (by kernel_rfl) (by simp) ?_; refine AllReadyH.cons rfl (fun K hK => ?_) AllReadyH.nil; replace hK := Lib.hid hK; go_simp
 refine (qcheck_any wc e.p HS.out.1).mono ?_
 rintro r wc ⟨rfl, hc⟩
 rw [if_neg (show ¬ checkL 6 12 e.p = true from k1.out)]
 replace CC := Lib.hid (CC.out.trans hc)
 clear hc
 refine hK.out _ _ (DX.out _ CC.out) (fun hHeld => ?_)
 clear hK K; try simp only [Act.put, sA, s0, s1]
 refine sy 8 11 rfl rfl ?_ (hS := (DX.out _ CC.out))
 try simp only [Act.put, sA, s0, s1]
 refine sy 9 12 rfl rfl ?_ (hS := (DX.out _ CC.out))
 try simp only [Act.put, sA, s0, s1]
 refine sy 10 13 rfl rfl ?_ (hS := (DX.out _ CC.out))
 try simp only [Act.put, sA, s0, s1]
 refine sn 11 14 rfl rfl ?_ (hS := (DX.out _ CC.out))
 try simp only [Act.put, sA, s0, s1]
 refine sn 12 15 rfl rfl ?_ (hS := (DX.out _ CC.out))
 try simp only [Act.put, sA, s0, s1]
 refine sn 13 16 rfl rfl ?_ (hS := (DX.out _ CC.out))
 try simp only [Act.put, sA, s0, s1]
 refine sn 14 17 rfl rfl ?_ (hS := (DX.out _ CC.out))
 try simp only [Act.put, sA, s0, s1]
 refine sy 15 18 rfl rfl ?_ (hS := (DX.out _ CC.out))
 try simp only [Act.put, sA, s0, s1]
 refine sy 16 19 rfl rfl ?_ (hS := (DX.out _ CC.out))
 try simp only [Act.put, sA, s0, s1]
 refine sn 17 20 rfl rfl ?_ (hS := (DX.out _ CC.out))
 try simp only [Act.put, sA, s0, s1]
 refine sn 18 21 rfl rfl ?_ (hS := (DX.out _ CC.out))
 try simp only [Act.put, sA, s0, s1]
 refine sn 19 22 rfl rfl ?_ (hS := (DX.out _ CC.out))
 try simp only [Act.put, sA, s0, s1]
 refine sn 20 23 rfl rfl ?_ (hS := (DX.out _ CC.out))
 try simp only [Act.put, sA, s0, s1]
 refine sy 21 24 rfl rfl ?_ (hS := (DX.out _ CC.out))
 try simp only [Act.put, sA, s0, s1]
 refine sy 22 25 rfl rfl ?_ (hS := (DX.out _ CC.out))
 try simp only [Act.put, sA, s0, s1]
 refine sn 23 26 rfl rfl ?_ (hS := (DX.out _ CC.out))
 try simp only [Act.put, sA, s0, s1]
 refine sn 24 27 rfl rfl ?_ (hS := (DX.out _ CC.out))
 try simp only [Act.put, sA, s0, s1]
 refine sn 25 28 rfl rfl ?_ (hS := (DX.out _ CC.out))
 try simp only [Act.put, sA, s0, s1]
 refine sn 26 29 rfl rfl ?_ (hS := (DX.out _ CC.out))
 try simp only [Act.put, sA, s0, s1]
 refine sn 27 30 rfl rfl ?_ (hS := (DX.out _ CC.out))
 try simp only [Act.put, sA, s0, s1]
 refine sn 28 31 rfl rfl ?_ (hS := (DX.out _ CC.out))
 try simp only [Act.put, sA, s0, s1]
 refine sn 29 32 rfl rfl ?_ (hS := (DX.out _ CC.out))
 try simp only [Act.put, sA, s0, s1]
 refine sn 30 33 rfl rfl ?_ (hS := (DX.out _ CC.out))
 try simp only [Act.put, sA, s0, s1]
 refine sn 31 34 rfl rfl ?_ (hS := (DX.out _ CC.out))
 try simp only [Act.put, sA, s0, s1]
 refine sn 32 35 rfl rfl ?_ (hS := (DX.out _ CC.out))
 try simp only [Act.put, sA, s0, s1]
 refine sy 33 36 rfl rfl ?_ (hS := (DX.out _ CC.out))
 try simp only [Act.put, sA, s0, s1]
 refine wpAnyH_done (by kernel_rfl) ?_ _; clear hHeld; go_wp2; go_ret
 exact ⟨rfl, C.out.trans CC.out⟩

set_option maxRecDepth 100000 in
set_option maxHeartbeats 8000000 in
theorem vecheck_2 (w : World) (x : EvT) (e : EvP) (h : EvR w x e) (hs : EvSm e) (hk : ∀ i, i < 2 → evOk e i) (hn : ¬ evOk e 2) :
  Calls Tryz.prog 49 #[.agg #[.int .i64 x.n, .int .i64 x.s, .string x.p, .int .i64 x.k, .int .i64 x.m, .slice x.A x.l x.c, .slice x.B x.bl x.bc]] w fun r w' => r = .returned (.int .i64 2) ∧ Chg [] w w' := by
 obtain ⟨w1, hw1, c1, b1⟩ := news1 w (.cells #[.int .i64 x.n, .int .i64 x.s, .string x.p, .int .i64 x.k, .int .i64 x.m, .slice x.A x.l x.c, .slice x.B x.bl x.bc] 30)
 have W1 := Lib.hid hw1
 have HR := Lib.hid (h.chg c1)
 have C := Lib.hid c1
 have HS := Lib.hid hs
 have k0 : Hid (evOk e 0) := Lib.hid (hk 0 (by omega))
 have k1 : Hid (evOk e 1) := Lib.hid (hk 1 (by omega))
 have k2 : Hid (¬ evOk e 2) := Lib.hid hn
 have hxn := h.n
 have hxs := h.s
 have hxp := h.p
 have hxk := h.k
 have hxm := h.m
 have hxl := h.l
 have hxbl := h.bl
 rw [hxn, hxs, hxp, hxk, hxm, hxl, hxbl] at b1 W1
 rw [hxn, hxs, hxp, hxk, hxm, hxl, hxbl]
 clear hxn hxs hxp hxk hxm hxl hxbl
 have z0 := cell_of b1 0
 have z1 := cell_of b1 1
 have z2 := cell_of b1 2
 have z3 := cell_of b1 3
 have z4 := cell_of b1 4
 have z5 := cell_of b1 5
 have z6 := cell_of b1 6
 simp only [List.getElem?_toArray, List.getElem?_cons_succ, List.getElem?_cons_zero] at z0 z1 z2 z3 z4 z5 z6
 clear hw1 c1 h hs hk hn b1
 go_enter Tryz.func49, Tryz.ntmps49
 go_upto_region 1 with fail
 rw [← W1.out]
 generalize w.heap.size = g0 at *
 refine wp_region_held_drew (S := fun w' => w'.cell? ⟨g0, 0, none⟩ = some (.int .i64 e.n) ∧ w'.cell? ⟨g0, 1, none⟩ = some (.int .i64 e.s) ∧ w'.cell? ⟨g0, 2, none⟩ = some (.string (strOf e.p)) ∧ w'.cell? ⟨g0, 3, none⟩ = some (.int .i64 e.k) ∧ w'.cell? ⟨g0, 4, none⟩ = some (.int .i64 e.m) ∧ w'.cell? ⟨g0, 5, none⟩ = some (.slice x.A e.b.length x.c) ∧ w'.cell? ⟨g0, 6, none⟩ = some (.slice x.B e.q.length x.bc)) (by kernel_rfl) ⟨z0, z1, z2, z3, z4, z5, z6⟩ (fun hHeld => ?_)
 have CC : Hid (Chg [] w1 w1.drew) := Lib.hid (Chg.refl [] w1).drew
 have DX : Hid (∀ w', Chg [] w1 w' → w'.cell? ⟨g0, 0, none⟩ = some (.int .i64 e.n) ∧ w'.cell? ⟨g0, 1, none⟩ = some (.int .i64 e.s) ∧ w'.cell? ⟨g0, 2, none⟩ = some (.string (strOf e.p)) ∧ w'.cell? ⟨g0, 3, none⟩ = some (.int .i64 e.k) ∧ w'.cell? ⟨g0, 4, none⟩ = some (.int .i64 e.m) ∧ w'.cell? ⟨g0, 5, none⟩ = some (.slice x.A e.b.length x.c) ∧ w'.cell? ⟨g0, 6, none⟩ = some (.slice x.B e.q.length x.bc)) := Lib.hid (fun w' hc => ⟨hc.cell z0 (by simp), hc.cell z1 (by simp), hc.cell z2 (by simp), hc.cell z3 (by simp), hc.cell z4 (by simp), hc.cell z5 (by simp), hc.cell z6 (by simp)⟩)
 clear z0 z1 z2 z3 z4 z5 z6 hHeld W1
 generalize w1.drew = wc at *
 refine sy 0 3 rfl rfl ?_ (hS := (DX.out _ CC.out))
 try simp only [Act.put, sA, s0, s1]
 refine sy 1 4 rfl rfl ?_ (hS := (DX.out _ CC.out)) (hy := by (intro w hSw; (try dsimp only at hSw); obtain ⟨q0, q1, q2, q3, q4, q5, q6⟩ := hSw; go_simp; try with_reducible rfl))
 try simp only [Act.put, sA, s0, s1]
 refine wpAnyH_ready (rs := [2]) (by kernel_rfl) (by simp) ?_; refine AllReadyH.cons rfl (fun K hK => ?_) AllReadyH.nil; replace hK := Lib.hid hK; go_simp
 refine (hcheck_dot wc e.n e.s).mono ?_
 rintro r wc ⟨rfl, hc⟩
 rw [chk_dot, if_pos (show FineQ e.n e.s from Decidable.byContradiction (fun q => absurd k0.out (by show ¬ chkD e.n e.s = 0; rw [chkD_odd q]; decide)))]
 replace CC := Lib.hid (CC.out.trans hc)
 clear hc
 refine hK.out _ _ (DX.out _ CC.out) (fun hHeld => ?_)
 clear hK K; try simp only [Act.put, sA, s0, s1]
 refine sy 3 6 rfl rfl ?_ (hS := (DX.out _ CC.out))
 try simp only [Act.put, sA, s0, s1]
 refine sy 4 7 rfl rfl ?_ (hS := (DX.out _ CC.out))
 try simp only [Act.put, sA, s0, s1]
 refine sy 5 8 rfl rfl ?_ (hS := (DX.out _ CC.out))
 try simp only [Act.put, sA, s0, s1]
 refine sy 6 9 rfl rfl ?_ (hS := (DX.out _ CC.out)) (hy := by (intro w hSw; (try dsimp only at hSw); obtain ⟨q0, q1, q2, q3, q4, q5, q6⟩ := hSw; go_simp; try with_reducible rfl))
 try simp only [Act.put, sA, s0, s1]
 refine wpAnyH_ready (rs := [7]) (by kernel_rfl) (by simp) ?_; refine AllReadyH.cons rfl (fun K hK => ?_) AllReadyH.nil; replace hK := Lib.hid hK; go_simp
 refine (qcheck_any wc e.p HS.out.1).mono ?_
 rintro r wc ⟨rfl, hc⟩
 rw [if_pos (show checkL 6 12 e.p = true from k1.out)]
 replace CC := Lib.hid (CC.out.trans hc)
 clear hc
 refine hK.out _ _ (DX.out _ CC.out) (fun hHeld => ?_)
 clear hK K; try simp only [Act.put, sA, s0, s1]
 refine sy 8 11 rfl rfl ?_ (hS := (DX.out _ CC.out))
 try simp only [Act.put, sA, s0, s1]
 refine sy 9 12 rfl rfl ?_ (hS := (DX.out _ CC.out))
 try simp only [Act.put, sA, s0, s1]
 refine sy 10 13 rfl rfl ?_ (hS := (DX.out _ CC.out))
 try simp only [Act.put, sA, s0, s1]
 refine sy 11 14 rfl rfl ?_ (hS := (DX.out _ CC.out))
 try simp only [Act.put, sA, s0, s1]
 refine sy 12 15 rfl rfl ?_ (hS := (DX.out _ CC.out)) (hy := by (intro w hSw; (try dsimp only at hSw); obtain ⟨q0, q1, q2, q3, q4, q5, q6⟩ := hSw; go_simp; try with_reducible rfl))
 try simp only [Act.put, sA, s0, s1]
 refine wpAnyH_ready (rs := [13]) (by kernel_rfl) (by simp) ?_; refine AllReadyH.cons rfl (fun K hK => ?_) AllReadyH.nil; replace hK := Lib.hid hK; go_simp
 refine (fcheck_any wc e.k e.m x.A e.b.length x.c HS.out.2.1).mono ?_
 rintro r wc ⟨rfl, hc⟩
 rw [show chkE e.k e.m e.b.length = 2 by unfold chkE; rw [if_neg]; exact fun q => k2.out (chkE_fine q)]
 replace CC := Lib.hid (CC.out.trans hc)
 clear hc
 refine hK.out _ _ (DX.out _ CC.out) (fun hHeld => ?_)
 clear hK K; try simp only [Act.put, sA, s0, s1]
 refine sy 14 17 rfl rfl ?_ (hS := (DX.out _ CC.out))
 try simp only [Act.put, sA, s0, s1]
 refine sy 15 18 rfl rfl ?_ (hS := (DX.out _ CC.out))
 try simp only [Act.put, sA, s0, s1]
 refine sy 16 19 rfl rfl ?_ (hS := (DX.out _ CC.out))
 try simp only [Act.put, sA, s0, s1]
 refine sn 17 20 rfl rfl ?_ (hS := (DX.out _ CC.out))
 try simp only [Act.put, sA, s0, s1]
 refine sn 18 21 rfl rfl ?_ (hS := (DX.out _ CC.out))
 try simp only [Act.put, sA, s0, s1]
 refine sn 19 22 rfl rfl ?_ (hS := (DX.out _ CC.out))
 try simp only [Act.put, sA, s0, s1]
 refine sn 20 23 rfl rfl ?_ (hS := (DX.out _ CC.out))
 try simp only [Act.put, sA, s0, s1]
 refine sy 21 24 rfl rfl ?_ (hS := (DX.out _ CC.out))
 try simp only [Act.put, sA, s0, s1]
 refine sy 22 25 rfl rfl ?_ (hS := (DX.out _ CC.out))
 try simp only [Act.put, sA, s0, s1]
 refine sn 23 26 rfl rfl ?_ (hS := (DX.out _ CC.out))
 try simp only [Act.put, sA, s0, s1]
 refine sn 24 27 rfl rfl ?_ (hS := (DX.out _ CC.out))
 try simp only [Act.put, sA, s0, s1]
 refine sn 25 28 rfl rfl ?_ (hS := (DX.out _ CC.out))
 try simp only [Act.put, sA, s0, s1]
 refine sn 26 29 rfl rfl ?_ (hS := (DX.out _ CC.out))
 try simp only [Act.put, sA, s0, s1]
 refine sn 27 30 rfl rfl ?_ (hS := (DX.out _ CC.out))
 try simp only [Act.put, sA, s0, s1]
 refine sn 28 31 rfl rfl ?_ (hS := (DX.out _ CC.out))
 try simp only [Act.put, sA, s0, s1]
 refine sn 29 32 rfl rfl ?_ (hS := (DX.out _ CC.out))
 try simp only [Act.put, sA, s0, s1]
 refine sn 30 33 rfl rfl ?_ (hS := (DX.out _ CC.out))
 try simp only [Act.put, sA, s0, s1]
 refine sn 31 34 rfl rfl ?_ (hS := (DX.out _ CC.out))
 try simp only [Act.put, sA, s0, s1]
 refine sn 32 35 rfl rfl ?_ (hS := (DX.out _ CC.out))
 try simp only [Act.put, sA, s0, s1]
 refine sy 33 36 rfl rfl ?_ (hS := (DX.out _ CC.out))
 try simp only [Act.put, sA, s0, s1]
 refine wpAnyH_done (by kernel_rfl) ?_ _; clear hHeld; go_wp2; go_ret
 exact ⟨rfl, C.out.trans CC.out⟩

set_option maxRecDepth 100000 in
set_option maxHeartbeats 8000000 in
theorem vecheck_3 (w : World) (x : EvT) (e : EvP) (h : EvR w x e) (hs : EvSm e) (hk : ∀ i, i < 3 → evOk e i) (hn : ¬ evOk e 3) :
  Calls Tryz.prog 49 #[.agg #[.int .i64 x.n, .int .i64 x.s, .string x.p, .int .i64 x.k, .int .i64 x.m, .slice x.A x.l x.c, .slice x.B x.bl x.bc]] w fun r w' => r = .returned (.int .i64 2) ∧ Chg [] w w' := by
 obtain ⟨w1, hw1, c1, b1⟩ := news1 w (.cells #[.int .i64 x.n, .int .i64 x.s, .string x.p, .int .i64 x.k, .int .i64 x.m, .slice x.A x.l x.c, .slice x.B x.bl x.bc] 30)
 have W1 := Lib.hid hw1
 have HR := Lib.hid (h.chg c1)
 have C := Lib.hid c1
 have HS := Lib.hid hs
 have k0 : Hid (evOk e 0) := Lib.hid (hk 0 (by omega))
 have k1 : Hid (evOk e 1) := Lib.hid (hk 1 (by omega))
 have k2 : Hid (evOk e 2) := Lib.hid (hk 2 (by omega))
 have k3 : Hid (¬ evOk e 3) := Lib.hid hn
 have hxn := h.n
 have hxs := h.s
 have hxp := h.p
 have hxk := h.k
 have hxm := h.m
 have hxl := h.l
 have hxbl := h.bl
 rw [hxn, hxs, hxp, hxk, hxm, hxl, hxbl] at b1 W1
 rw [hxn, hxs, hxp, hxk, hxm, hxl, hxbl]
 clear hxn hxs hxp hxk hxm hxl hxbl
 have z0 := cell_of b1 0
 have z1 := cell_of b1 1
 have z2 := cell_of b1 2
 have z3 := cell_of b1 3
 have z4 := cell_of b1 4
 have z5 := cell_of b1 5
 have z6 := cell_of b1 6
 simp only [List.getElem?_toArray, List.getElem?_cons_succ, List.getElem?_cons_zero] at z0 z1 z2 z3 z4 z5 z6
 clear hw1 c1 h hs hk hn b1
 go_enter Tryz.func49, Tryz.ntmps49
 go_upto_region 1 with fail
 rw [← W1.out]
 generalize w.heap.size = g0 at *
 refine wp_region_held_drew (S := fun w' => w'.cell? ⟨g0, 0, none⟩ = some (.int .i64 e.n) ∧ w'.cell? ⟨g0, 1, none⟩ = some (.int .i64 e.s) ∧ w'.cell? ⟨g0, 2, none⟩ = some (.string (strOf e.p)) ∧ w'.cell? ⟨g0, 3, none⟩ = some (.int .i64 e.k) ∧ w'.cell? ⟨g0, 4, none⟩ = some (.int .i64 e.m) ∧ w'.cell? ⟨g0, 5, none⟩ = some (.slice x.A e.b.length x.c) ∧ w'.cell? ⟨g0, 6, none⟩ = some (.slice x.B e.q.length x.bc)) (by kernel_rfl) ⟨z0, z1, z2, z3, z4, z5, z6⟩ (fun hHeld => ?_)
 have CC : Hid (Chg [] w1 w1.drew) := Lib.hid (Chg.refl [] w1).drew
 have DX : Hid (∀ w', Chg [] w1 w' → w'.cell? ⟨g0, 0, none⟩ = some (.int .i64 e.n) ∧ w'.cell? ⟨g0, 1, none⟩ = some (.int .i64 e.s) ∧ w'.cell? ⟨g0, 2, none⟩ = some (.string (strOf e.p)) ∧ w'.cell? ⟨g0, 3, none⟩ = some (.int .i64 e.k) ∧ w'.cell? ⟨g0, 4, none⟩ = some (.int .i64 e.m) ∧ w'.cell? ⟨g0, 5, none⟩ = some (.slice x.A e.b.length x.c) ∧ w'.cell? ⟨g0, 6, none⟩ = some (.slice x.B e.q.length x.bc)) := Lib.hid (fun w' hc => ⟨hc.cell z0 (by simp), hc.cell z1 (by simp), hc.cell z2 (by simp), hc.cell z3 (by simp), hc.cell z4 (by simp), hc.cell z5 (by simp), hc.cell z6 (by simp)⟩)
 clear z0 z1 z2 z3 z4 z5 z6 hHeld W1
 generalize w1.drew = wc at *
 refine sy 0 3 rfl rfl ?_ (hS := (DX.out _ CC.out))
 try simp only [Act.put, sA, s0, s1]
 refine sy 1 4 rfl rfl ?_ (hS := (DX.out _ CC.out)) (hy := by (intro w hSw; (try dsimp only at hSw); obtain ⟨q0, q1, q2, q3, q4, q5, q6⟩ := hSw; go_simp; try with_reducible rfl))
 try simp only [Act.put, sA, s0, s1]
 refine wpAnyH_ready (rs := [2]) (by kernel_rfl) (by simp) ?_; refine AllReadyH.cons rfl (fun K hK => ?_) AllReadyH.nil; replace hK := Lib.hid hK; go_simp
 refine (hcheck_dot wc e.n e.s).mono ?_
 rintro r wc ⟨rfl, hc⟩
 rw [chk_dot, if_pos (show FineQ e.n e.s from Decidable.byContradiction (fun q => absurd k0.out (by show ¬ chkD e.n e.s = 0; rw [chkD_odd q]; decide)))]
 replace CC := Lib.hid (CC.out.trans hc)
 clear hc
 refine hK.out _ _ (DX.out _ CC.out) (fun hHeld => ?_)
 clear hK K; try simp only [Act.put, sA, s0, s1]
 refine sy 3 6 rfl rfl ?_ (hS := (DX.out _ CC.out))
 try simp only [Act.put, sA, s0, s1]
 refine sy 4 7 rfl rfl ?_ (hS := (DX.out _ CC.out))
 try simp only [Act.put, sA, s0, s1]
 refine sy 5 8 rfl rfl ?_ (hS := (DX.out _ CC.out))
 try simp only [Act.put, sA, s0, s1]
 refine sy 6 9 rfl rfl ?_ (hS := (DX.out _ CC.out)) (hy := by (intro w hSw; (try dsimp only at hSw); obtain ⟨q0, q1, q2, q3, q4, q5, q6⟩ := hSw; go_simp; try with_reducible rfl))
 try simp only [Act.put, sA, s0, s1]
 refine wpAnyH_ready (rs := [7]) (by kernel_rfl) (by simp) ?_; refine AllReadyH.cons rfl (fun K hK => ?_) AllReadyH.nil; replace hK := Lib.hid hK; go_simp
 refine (qcheck_any wc e.p HS.out.1).mono ?_
 rintro r wc ⟨rfl, hc⟩
 rw [if_pos (show checkL 6 12 e.p = true from k1.out)]
 replace CC := Lib.hid (CC.out.trans hc)
 clear hc
 refine hK.out _ _ (DX.out _ CC.out) (fun hHeld => ?_)
 clear hK K; try simp only [Act.put, sA, s0, s1]
 refine sy 8 11 rfl rfl ?_ (hS := (DX.out _ CC.out))
 try simp only [Act.put, sA, s0, s1]
 refine sy 9 12 rfl rfl ?_ (hS := (DX.out _ CC.out))
 try simp only [Act.put, sA, s0, s1]
 refine sy 10 13 rfl rfl ?_ (hS := (DX.out _ CC.out))
 try simp only [Act.put, sA, s0, s1]
 refine sy 11 14 rfl rfl ?_ (hS := (DX.out _ CC.out))
 try simp only [Act.put, sA, s0, s1]
 refine sy 12 15 rfl rfl ?_ (hS := (DX.out _ CC.out)) (hy := by (intro w hSw; (try dsimp only at hSw); obtain ⟨q0, q1, q2, q3, q4, q5, q6⟩ := hSw; go_simp; try with_reducible rfl))
 try simp only [Act.put, sA, s0, s1]
 refine wpAnyH_ready (rs := [13]) (by kernel_rfl) (by simp) ?_; refine AllReadyH.cons rfl (fun K hK => ?_) AllReadyH.nil; replace hK := Lib.hid hK; go_simp
 refine (fcheck_any wc e.k e.m x.A e.b.length x.c HS.out.2.1).mono ?_
 rintro r wc ⟨rfl, hc⟩
 rw [show chkE e.k e.m e.b.length = 0 from k2.out]
 replace CC := Lib.hid (CC.out.trans hc)
 clear hc
 refine hK.out _ _ (DX.out _ CC.out) (fun hHeld => ?_)
 clear hK K; try simp only [Act.put, sA, s0, s1]
 refine sy 14 17 rfl rfl ?_ (hS := (DX.out _ CC.out))
 try simp only [Act.put, sA, s0, s1]
 refine sy 15 18 rfl rfl ?_ (hS := (DX.out _ CC.out))
 try simp only [Act.put, sA, s0, s1]
 refine sy 16 19 rfl rfl ?_ (hS := (DX.out _ CC.out))
 try simp only [Act.put, sA, s0, s1]
 refine sy 17 20 rfl rfl ?_ (hS := (DX.out _ CC.out))
 try simp only [Act.put, sA, s0, s1]
 refine sy 18 21 rfl rfl ?_ (hS := (DX.out _ CC.out)) (hy := by (intro w hSw; (try dsimp only at hSw); obtain ⟨q0, q1, q2, q3, q4, q5, q6⟩ := hSw; go_simp; try with_reducible rfl))
 try simp only [Act.put, sA, s0, s1]
 refine wpAnyH_ready (rs := [19]) (by kernel_rfl) (by simp) ?_; refine AllReadyH.cons rfl (fun K hK => ?_) AllReadyH.nil; replace hK := Lib.hid hK; go_simp
 refine (qacheck_any wc x.B e.q.length x.bc e.q (by have := HR.out.B.chg CC.out (by simp); rw [HR.out.bl] at this; exact this) HS.out.2.2).mono ?_
 rintro r wc ⟨rfl, hc⟩
 rw [show chkS e.q = 2 from (chk_two e.q).resolve_left k3.out]
 replace CC := Lib.hid (CC.out.trans hc)
 clear hc
 refine hK.out _ _ (DX.out _ CC.out) (fun hHeld => ?_)
 clear hK K; try simp only [Act.put, sA, s0, s1]
 refine sy 20 23 rfl rfl ?_ (hS := (DX.out _ CC.out))
 try simp only [Act.put, sA, s0, s1]
 refine sy 21 24 rfl rfl ?_ (hS := (DX.out _ CC.out))
 try simp only [Act.put, sA, s0, s1]
 refine sy 22 25 rfl rfl ?_ (hS := (DX.out _ CC.out))
 try simp only [Act.put, sA, s0, s1]
 refine sn 23 26 rfl rfl ?_ (hS := (DX.out _ CC.out))
 try simp only [Act.put, sA, s0, s1]
 refine sn 24 27 rfl rfl ?_ (hS := (DX.out _ CC.out))
 try simp only [Act.put, sA, s0, s1]
 refine sn 25 28 rfl rfl ?_ (hS := (DX.out _ CC.out))
 try simp only [Act.put, sA, s0, s1]
 refine sn 26 29 rfl rfl ?_ (hS := (DX.out _ CC.out))
 try simp only [Act.put, sA, s0, s1]
 refine sn 27 30 rfl rfl ?_ (hS := (DX.out _ CC.out))
 try simp only [Act.put, sA, s0, s1]
 refine sn 28 31 rfl rfl ?_ (hS := (DX.out _ CC.out))
 try simp only [Act.put, sA, s0, s1]
 refine sn 29 32 rfl rfl ?_ (hS := (DX.out _ CC.out))
 try simp only [Act.put, sA, s0, s1]
 refine sn 30 33 rfl rfl ?_ (hS := (DX.out _ CC.out))
 try simp only [Act.put, sA, s0, s1]
 refine sn 31 34 rfl rfl ?_ (hS := (DX.out _ CC.out))
 try simp only [Act.put, sA, s0, s1]
 refine sn 32 35 rfl rfl ?_ (hS := (DX.out _ CC.out))
 try simp only [Act.put, sA, s0, s1]
 refine sy 33 36 rfl rfl ?_ (hS := (DX.out _ CC.out))
 try simp only [Act.put, sA, s0, s1]
 refine wpAnyH_done (by kernel_rfl) ?_ _; clear hHeld; go_wp2; go_ret
 exact ⟨rfl, C.out.trans CC.out⟩

set_option maxRecDepth 100000 in
set_option maxHeartbeats 8000000 in
theorem vecheck_4 (w : World) (x : EvT) (e : EvP) (h : EvR w x e) (hs : EvSm e) (hk : ∀ i, i < 4 → evOk e i) (hn : ¬ evOk e 4) :
  Calls Tryz.prog 49 #[.agg #[.int .i64 x.n, .int .i64 x.s, .string x.p, .int .i64 x.k, .int .i64 x.m, .slice x.A x.l x.c, .slice x.B x.bl x.bc]] w fun r w' => r = .returned (.int .i64 2) ∧ Chg [] w w' := by
 obtain ⟨w1, hw1, c1, b1⟩ := news1 w (.cells #[.int .i64 x.n, .int .i64 x.s, .string x.p, .int .i64 x.k, .int .i64 x.m, .slice x.A x.l x.c, .slice x.B x.bl x.bc] 30)
 have W1 := Lib.hid hw1
 have HR := Lib.hid (h.chg c1)
 have C := Lib.hid c1
 have HS := Lib.hid hs
 have k0 : Hid (evOk e 0) := Lib.hid (hk 0 (by omega))
 have k1 : Hid (evOk e 1) := Lib.hid (hk 1 (by omega))
 have k2 : Hid (evOk e 2) := Lib.hid (hk 2 (by omega))
 have k3 : Hid (evOk e 3) := Lib.hid (hk 3 (by omega))
 have k4 : Hid (¬ evOk e 4) := Lib.hid hn
 have hxn := h.n
 have hxs := h.s
 have hxp := h.p
 have hxk := h.k
 have hxm := h.m
 have hxl := h.l
 have hxbl := h.bl
 rw [hxn, hxs, hxp, hxk, hxm, hxl, hxbl] at b1 W1
 rw [hxn, hxs, hxp, hxk, hxm, hxl, hxbl]
 clear hxn hxs hxp hxk hxm hxl hxbl
 have z0 := cell_of b1 0
 have z1 := cell_of b1 1
 have z2 := cell_of b1 2
 have z3 := cell_of b1 3
 have z4 := cell_of b1 4
 have z5 := cell_of b1 5
 have z6 := cell_of b1 6
 simp only [List.getElem?_toArray, List.getElem?_cons_succ, List.getElem?_cons_zero] at z0 z1 z2 z3 z4 z5 z6
 clear hw1 c1 h hs hk hn b1
 generalize hlv : (if chkS e.q = 0 then lastL e.n e.q else 0) = lv
 have LV := Lib.hid hlv
 have ge : decide (e.s ≤ lv) = true := by
  have q : ¬ lv < e.s := fun q => k4.out (by show _ < e.s; rw [hlv]; exact q)
  exact decide_eq_true (by omega)
 clear hlv
 go_enter Tryz.func49, Tryz.ntmps49
 go_upto_region 1 with fail
 rw [← W1.out]
 generalize w.heap.size = g0 at *
 refine wp_region_held_drew (S := fun w' => w'.cell? ⟨g0, 0, none⟩ = some (.int .i64 e.n) ∧ w'.cell? ⟨g0, 1, none⟩ = some (.int .i64 e.s) ∧ w'.cell? ⟨g0, 2, none⟩ = some (.string (strOf e.p)) ∧ w'.cell? ⟨g0, 3, none⟩ = some (.int .i64 e.k) ∧ w'.cell? ⟨g0, 4, none⟩ = some (.int .i64 e.m) ∧ w'.cell? ⟨g0, 5, none⟩ = some (.slice x.A e.b.length x.c) ∧ w'.cell? ⟨g0, 6, none⟩ = some (.slice x.B e.q.length x.bc)) (by kernel_rfl) ⟨z0, z1, z2, z3, z4, z5, z6⟩ (fun hHeld => ?_)
 have CC : Hid (Chg [] w1 w1.drew) := Lib.hid (Chg.refl [] w1).drew
 have DX : Hid (∀ w', Chg [] w1 w' → w'.cell? ⟨g0, 0, none⟩ = some (.int .i64 e.n) ∧ w'.cell? ⟨g0, 1, none⟩ = some (.int .i64 e.s) ∧ w'.cell? ⟨g0, 2, none⟩ = some (.string (strOf e.p)) ∧ w'.cell? ⟨g0, 3, none⟩ = some (.int .i64 e.k) ∧ w'.cell? ⟨g0, 4, none⟩ = some (.int .i64 e.m) ∧ w'.cell? ⟨g0, 5, none⟩ = some (.slice x.A e.b.length x.c) ∧ w'.cell? ⟨g0, 6, none⟩ = some (.slice x.B e.q.length x.bc)) := Lib.hid (fun w' hc => ⟨hc.cell z0 (by simp), hc.cell z1 (by simp), hc.cell z2 (by simp), hc.cell z3 (by simp), hc.cell z4 (by simp), hc.cell z5 (by simp), hc.cell z6 (by simp)⟩)
 clear z0 z1 z2 z3 z4 z5 z6 hHeld W1
 generalize w1.drew = wc at *
 refine sy 0 3 rfl rfl ?_ (hS := (DX.out _ CC.out))
 try simp only [Act.put, sA, s0, s1]
 refine sy 1 4 rfl rfl ?_ (hS := (DX.out _ CC.out)) (hy := by (intro w hSw; (try dsimp only at hSw); obtain ⟨q0, q1, q2, q3, q4, q5, q6⟩ := hSw; go_simp; try with_reducible rfl))
 try simp only [Act.put, sA, s0, s1]
 refine wpAnyH_ready (rs := [2]) (by kernel_rfl) (by simp) ?_; refine AllReadyH.cons rfl (fun K hK => ?_) AllReadyH.nil; replace hK := Lib.hid hK; go_simp
 refine (hcheck_dot wc e.n e.s).mono ?_
 rintro r wc ⟨rfl, hc⟩
 rw [chk_dot, if_pos (show FineQ e.n e.s from Decidable.byContradiction (fun q => absurd k0.out (by show ¬ chkD e.n e.s = 0; rw [chkD_odd q]; decide)))]
 replace CC := Lib.hid (CC.out.trans hc)
 clear hc
 refine hK.out _ _ (DX.out _ CC.out) (fun hHeld => ?_)
 clear hK K; try simp only [Act.put, sA, s0, s1]
 refine sy 3 6 rfl rfl ?_ (hS := (DX.out _ CC.out))
 try simp only [Act.put, sA, s0, s1]
 refine sy 4 7 rfl rfl ?_ (hS := (DX.out _ CC.out))
 try simp only [Act.put, sA, s0, s1]
 refine sy 5 8 rfl rfl ?_ (hS := (DX.out _ CC.out))
 try simp only [Act.put, sA, s0, s1]
 refine sy 6 9 rfl rfl ?_ (hS := (DX.out _ CC.out)) (hy := by (intro w hSw; (try dsimp only at hSw); obtain ⟨q0, q1, q2, q3, q4, q5, q6⟩ := hSw; go_simp; try with_reducible rfl))
 try simp only [Act.put, sA, s0, s1]
 refine wpAnyH_ready (rs := [7]) (by kernel_rfl) (by simp) ?_; refine AllReadyH.cons rfl (fun K hK => ?_) AllReadyH.nil; replace hK := Lib.hid hK; go_simp
 refine (qcheck_any wc e.p HS.out.1).mono ?_
 rintro r wc ⟨rfl, hc⟩
 rw [if_pos (show checkL 6 12 e.p = true from k1.out)]
 replace CC := Lib.hid (CC.out.trans hc)
 clear hc
 refine hK.out _ _ (DX.out _ CC.out) (fun hHeld => ?_)
 clear hK K; try simp only [Act.put, sA, s0, s1]
 refine sy 8 11 rfl rfl ?_ (hS := (DX.out _ CC.out))
 try simp only [Act.put, sA, s0, s1]
 refine sy 9 12 rfl rfl ?_ (hS := (DX.out _ CC.out))
 try simp only [Act.put, sA, s0, s1]
 refine sy 10 13 rfl rfl ?_ (hS := (DX.out _ CC.out))
 try simp only [Act.put, sA, s0, s1]
 refine sy 11 14 rfl rfl ?_ (hS := (DX.out _ CC.out))
 try simp only [Act.put, sA, s0, s1]
 refine sy 12 15 rfl rfl ?_ (hS := (DX.out _ CC.out)) (hy := by (intro w hSw; (try dsimp only at hSw); obtain ⟨q0, q1, q2, q3, q4, q5, q6⟩ := hSw; go_simp; try with_reducible rfl))
 try simp only [Act.put, sA, s0, s1]
 refine wpAnyH_ready (rs := [13]) (by kernel_rfl) (by simp) ?_; refine AllReadyH.cons rfl (fun K hK => ?_) AllReadyH.nil; replace hK := Lib.hid hK; go_simp
 refine (fcheck_any wc e.k e.m x.A e.b.length x.c HS.out.2.1).mono ?_
 rintro r wc ⟨rfl, hc⟩
 rw [show chkE e.k e.m e.b.length = 0 from k2.out]
 replace CC := Lib.hid (CC.out.trans hc)
 clear hc
 refine hK.out _ _ (DX.out _ CC.out) (fun hHeld => ?_)
 clear hK K; try simp only [Act.put, sA, s0, s1]
 refine sy 14 17 rfl rfl ?_ (hS := (DX.out _ CC.out))
 try simp only [Act.put, sA, s0, s1]
 refine sy 15 18 rfl rfl ?_ (hS := (DX.out _ CC.out))
 try simp only [Act.put, sA, s0, s1]
 refine sy 16 19 rfl rfl ?_ (hS := (DX.out _ CC.out))
 try simp only [Act.put, sA, s0, s1]
 refine sy 17 20 rfl rfl ?_ (hS := (DX.out _ CC.out))
 try simp only [Act.put, sA, s0, s1]
 refine sy 18 21 rfl rfl ?_ (hS := (DX.out _ CC.out)) (hy := by (intro w hSw; (try dsimp only at hSw); obtain ⟨q0, q1, q2, q3, q4, q5, q6⟩ := hSw; go_simp; try with_reducible rfl))
 try simp only [Act.put, sA, s0, s1]
 refine wpAnyH_ready (rs := [19]) (by kernel_rfl) (by simp) ?_; refine AllReadyH.cons rfl (fun K hK => ?_) AllReadyH.nil; replace hK := Lib.hid hK; go_simp
 refine (qacheck_any wc x.B e.q.length x.bc e.q (by have := HR.out.B.chg CC.out (by simp); rw [HR.out.bl] at this; exact this) HS.out.2.2).mono ?_
 rintro r wc ⟨rfl, hc⟩
 rw [show chkS e.q = 0 from k3.out]
 replace CC := Lib.hid (CC.out.trans hc)
 clear hc
 refine hK.out _ _ (DX.out _ CC.out) (fun hHeld => ?_)
 clear hK K; try simp only [Act.put, sA, s0, s1]
 refine sy 20 23 rfl rfl ?_ (hS := (DX.out _ CC.out))
 try simp only [Act.put, sA, s0, s1]
 refine sy 21 24 rfl rfl ?_ (hS := (DX.out _ CC.out))
 try simp only [Act.put, sA, s0, s1]
 refine sy 22 25 rfl rfl ?_ (hS := (DX.out _ CC.out))
 try simp only [Act.put, sA, s0, s1]
 refine sy 23 26 rfl rfl ?_ (hS := (DX.out _ CC.out))
 try simp only [Act.put, sA, s0, s1]
 refine sy 24 27 rfl rfl ?_ (hS := (DX.out _ CC.out)) (hy := by (intro w hSw; (try dsimp only at hSw); obtain ⟨q0, q1, q2, q3, q4, q5, q6⟩ := hSw; go_simp; try with_reducible rfl))
 try simp only [Act.put, sA, s0, s1]
 refine sy 25 28 rfl rfl ?_ (hS := (DX.out _ CC.out))
 try simp only [Act.put, sA, s0, s1]
 refine sy 26 29 rfl rfl ?_ (hS := (DX.out _ CC.out))
 try simp only [Act.put, sA, s0, s1]
 refine sy 27 30 rfl rfl ?_ (hS := (DX.out _ CC.out)) (hy := by (intro w hSw; (try dsimp only at hSw); obtain ⟨q0, q1, q2, q3, q4, q5, q6⟩ := hSw; go_simp; try with_reducible rfl))
 try simp only [Act.put, sA, s0, s1]
 refine sy 29 32 rfl rfl ?_ (hS := (DX.out _ CC.out))
 try simp only [Act.put, sA, s0, s1]
 refine sy 30 33 rfl rfl ?_ (hS := (DX.out _ CC.out))
 try simp only [Act.put, sA, s0, s1]
 refine sy 31 34 rfl rfl ?_ (hS := (DX.out _ CC.out)) (hy := by (intro w hSw; (try dsimp only at hSw); obtain ⟨q0, q1, q2, q3, q4, q5, q6⟩ := hSw; go_simp; try with_reducible rfl))
 try simp only [Act.put, sA, s0, s1]
 refine wpAnyH_ready (rs := [28]) (by kernel_rfl) (by simp) ?_; refine AllReadyH.cons rfl (fun K hK => ?_) AllReadyH.nil; replace hK := Lib.hid hK; go_simp
 refine (qlast_any wc x.B x.bc e.q e.n (by have := HR.out.B.chg CC.out (by simp); rw [HR.out.bl] at this; exact this) HS.out.2.2).mono ?_
 rintro r wc ⟨rfl, hc⟩
 rw [LV.out]
 replace CC := Lib.hid (CC.out.trans hc)
 clear hc
 refine hK.out _ _ (DX.out _ CC.out) (fun hHeld => ?_)
 clear hK K; try simp only [Act.put, sA, s0, s1]
 refine sy 32 35 rfl rfl ?_ (hS := (DX.out _ CC.out))
 try simp only [Act.put, sA, s0, s1]
 refine sy 33 36 rfl rfl ?_ (hS := (DX.out _ CC.out))
 try simp only [Act.put, sA, s0, s1]
 refine wpAnyH_done (by kernel_rfl) ?_ _; clear hHeld; go_wp2; go_ret
 exact ⟨rfl, C.out.trans CC.out⟩

set_option maxRecDepth 100000 in
set_option maxHeartbeats 8000000 in
theorem vecheck_5 (w : World) (x : EvT) (e : EvP) (h : EvR w x e) (hs : EvSm e) (hk : ∀ i, i < 5 → evOk e i) :
  Calls Tryz.prog 49 #[.agg #[.int .i64 x.n, .int .i64 x.s, .string x.p, .int .i64 x.k, .int .i64 x.m, .slice x.A x.l x.c, .slice x.B x.bl x.bc]] w fun r w' => r = .returned (.int .i64 0) ∧ Chg [] w w' := by
 obtain ⟨w1, hw1, c1, b1⟩ := news1 w (.cells #[.int .i64 x.n, .int .i64 x.s, .string x.p, .int .i64 x.k, .int .i64 x.m, .slice x.A x.l x.c, .slice x.B x.bl x.bc] 30)
 have W1 := Lib.hid hw1
 have HR := Lib.hid (h.chg c1)
 have C := Lib.hid c1
 have HS := Lib.hid hs
 have k0 : Hid (evOk e 0) := Lib.hid (hk 0 (by omega))
 have k1 : Hid (evOk e 1) := Lib.hid (hk 1 (by omega))
 have k2 : Hid (evOk e 2) := Lib.hid (hk 2 (by omega))
 have k3 : Hid (evOk e 3) := Lib.hid (hk 3 (by omega))
 have k4 : Hid (evOk e 4) := Lib.hid (hk 4 (by omega))
 have hxn := h.n
 have hxs := h.s
 have hxp := h.p
 have hxk := h.k
 have hxm := h.m
 have hxl := h.l
 have hxbl := h.bl
 rw [hxn, hxs, hxp, hxk, hxm, hxl, hxbl] at b1 W1
 rw [hxn, hxs, hxp, hxk, hxm, hxl, hxbl]
 clear hxn hxs hxp hxk hxm hxl hxbl
 have z0 := cell_of b1 0
 have z1 := cell_of b1 1
 have z2 := cell_of b1 2
 have z3 := cell_of b1 3
 have z4 := cell_of b1 4
 have z5 := cell_of b1 5
 have z6 := cell_of b1 6
 simp only [List.getElem?_toArray, List.getElem?_cons_succ, List.getElem?_cons_zero] at z0 z1 z2 z3 z4 z5 z6
 clear hw1 c1 h hs hk b1
 generalize hlv : (if chkS e.q = 0 then lastL e.n e.q else 0) = lv
 have LV := Lib.hid hlv
 have ge : decide (e.s ≤ lv) = false := by
  have q : lv < e.s := by rw [← hlv]; exact k4.out
  exact decide_eq_false (by omega)
 clear hlv
 go_enter Tryz.func49, Tryz.ntmps49
 go_upto_region 1 with fail
 rw [← W1.out]
 generalize w.heap.size = g0 at *
 refine wp_region_held_drew (S := fun w' => w'.cell? ⟨g0, 0, none⟩ = some (.int .i64 e.n) ∧ w'.cell? ⟨g0, 1, none⟩ = some (.int .i64 e.s) ∧ w'.cell? ⟨g0, 2, none⟩ = some (.string (strOf e.p)) ∧ w'.cell? ⟨g0, 3, none⟩ = some (.int .i64 e.k) ∧ w'.cell? ⟨g0, 4, none⟩ = some (.int .i64 e.m) ∧ w'.cell? ⟨g0, 5, none⟩ = some (.slice x.A e.b.length x.c) ∧ w'.cell? ⟨g0, 6, none⟩ = some (.slice x.B e.q.length x.bc)) (by kernel_rfl) ⟨z0, z1, z2, z3, z4, z5, z6⟩ (fun hHeld => ?_)
 have CC : Hid (Chg [] w1 w1.drew) := Lib.hid (Chg.refl [] w1).drew
 have DX : Hid (∀ w', Chg [] w1 w' → w'.cell? ⟨g0, 0, none⟩ = some (.int .i64 e.n) ∧ w'.cell? ⟨g0, 1, none⟩ = some (.int .i64 e.s) ∧ w'.cell? ⟨g0, 2, none⟩ = some (.string (strOf e.p)) ∧ w'.cell? ⟨g0, 3, none⟩ = some (.int .i64 e.k) ∧ w'.cell? ⟨g0, 4, none⟩ = some (.int .i64 e.m) ∧ w'.cell? ⟨g0, 5, none⟩ = some (.slice x.A e.b.length x.c) ∧ w'.cell? ⟨g0, 6, none⟩ = some (.slice x.B e.q.length x.bc)) := Lib.hid (fun w' hc => ⟨hc.cell z0 (by simp), hc.cell z1 (by simp), hc.cell z2 (by simp), hc.cell z3 (by simp), hc.cell z4 (by simp), hc.cell z5 (by simp), hc.cell z6 (by simp)⟩)
 clear z0 z1 z2 z3 z4 z5 z6 hHeld W1
 generalize w1.drew = wc at *
 refine sy 0 3 rfl rfl ?_ (hS := (DX.out _ CC.out))
 try simp only [Act.put, sA, s0, s1]
 refine sy 1 4 rfl rfl ?_ (hS := (DX.out _ CC.out)) (hy := by (intro w hSw; (try dsimp only at hSw); obtain ⟨q0, q1, q2, q3, q4, q5, q6⟩ := hSw; go_simp; try with_reducible rfl))
 try simp only [Act.put, sA, s0, s1]
 refine wpAnyH_ready (rs := [2]) (by kernel_rfl) (by simp) ?_; refine AllReadyH.cons rfl (fun K hK => ?_) AllReadyH.nil; replace hK := Lib.hid hK; go_simp
 refine (hcheck_dot wc e.n e.s).mono ?_
 rintro r wc ⟨rfl, hc⟩
 rw [chk_dot, if_pos (show FineQ e.n e.s from Decidable.byContradiction (fun q => absurd k0.out (by show ¬ chkD e.n e.s = 0; rw [chkD_odd q]; decide)))]
 replace CC := Lib.hid (CC.out.trans hc)
 clear hc
 refine hK.out _ _ (DX.out _ CC.out) (fun hHeld => ?_)
 clear hK K; try simp only [Act.put, sA, s0, s1]
 refine sy 3 6 rfl rfl ?_ (hS := (DX.out _ CC.out))
 try simp only [Act.put, sA, s0, s1]
 refine sy 4 7 rfl rfl ?_ (hS := (DX.out _ CC.out))
 try simp only [Act.put, sA, s0, s1]
 refine sy 5 8 rfl rfl ?_ (hS := (DX.out _ CC.out))
 try simp only [Act.put, sA, s0, s1]
 refine sy 6 9 rfl rfl ?_ (hS := (DX.out _ CC.out)) (hy := by (intro w hSw; (try dsimp only at hSw); obtain ⟨q0, q1, q2, q3, q4, q5, q6⟩ := hSw; go_simp; try with_reducible rfl))
 try simp only [Act.put, sA, s0, s1]
 refine wpAnyH_ready (rs := [7]) (by kernel_rfl) (by simp) ?_; refine AllReadyH.cons rfl (fun K hK => ?_) AllReadyH.nil; replace hK := Lib.hid hK; go_simp
 refine (qcheck_any wc e.p HS.out.1).mono ?_
 rintro r wc ⟨rfl, hc⟩
 rw [if_pos (show checkL 6 12 e.p = true from k1.out)]
 replace CC := Lib.hid (CC.out.trans hc)
 clear hc
 refine hK.out _ _ (DX.out _ CC.out) (fun hHeld => ?_)
 clear hK K; try simp only [Act.put, sA, s0, s1]
 refine sy 8 11 rfl rfl ?_ (hS := (DX.out _ CC.out))
 try simp only [Act.put, sA, s0, s1]
 refine sy 9 12 rfl rfl ?_ (hS := (DX.out _ CC.out))
 try simp only [Act.put, sA, s0, s1]
 refine sy 10 13 rfl rfl ?_ (hS := (DX.out _ CC.out))
 try simp only [Act.put, sA, s0, s1]
 refine sy 11 14 rfl rfl ?_ (hS := (DX.out _ CC.out))
 try simp only [Act.put, sA, s0, s1]
 refine sy 12 15 rfl rfl ?_ (hS := (DX.out _ CC.out)) (hy := by (intro w hSw; (try dsimp only at hSw); obtain ⟨q0, q1, q2, q3, q4, q5, q6⟩ := hSw; go_simp; try with_reducible rfl))
 try simp only [Act.put, sA, s0, s1]
 refine wpAnyH_ready (rs := [13]) (by kernel_rfl) (by simp) ?_; refine AllReadyH.cons rfl (fun K hK => ?_) AllReadyH.nil; replace hK := Lib.hid hK; go_simp
 refine (fcheck_any wc e.k e.m x.A e.b.length x.c HS.out.2.1).mono ?_
 rintro r wc ⟨rfl, hc⟩
 rw [show chkE e.k e.m e.b.length = 0 from k2.out]
 replace CC := Lib.hid (CC.out.trans hc)
 clear hc
 refine hK.out _ _ (DX.out _ CC.out) (fun hHeld => ?_)
 clear hK K; try simp only [Act.put, sA, s0, s1]
 refine sy 14 17 rfl rfl ?_ (hS := (DX.out _ CC.out))
 try simp only [Act.put, sA, s0, s1]
 refine sy 15 18 rfl rfl ?_ (hS := (DX.out _ CC.out))
 try simp only [Act.put, sA, s0, s1]
 refine sy 16 19 rfl rfl ?_ (hS := (DX.out _ CC.out))
 try simp only [Act.put, sA, s0, s1]
 refine sy 17 20 rfl rfl ?_ (hS := (DX.out _ CC.out))
 try simp only [Act.put, sA, s0, s1]
 refine sy 18 21 rfl rfl ?_ (hS := (DX.out _ CC.out)) (hy := by (intro w hSw; (try dsimp only at hSw); obtain ⟨q0, q1, q2, q3, q4, q5, q6⟩ := hSw; go_simp; try with_reducible rfl))
 try simp only [Act.put, sA, s0, s1]
 refine wpAnyH_ready (rs := [19]) (by kernel_rfl) (by simp) ?_; refine AllReadyH.cons rfl (fun K hK => ?_) AllReadyH.nil; replace hK := Lib.hid hK; go_simp
 refine (qacheck_any wc x.B e.q.length x.bc e.q (by have := HR.out.B.chg CC.out (by simp); rw [HR.out.bl] at this; exact this) HS.out.2.2).mono ?_
 rintro r wc ⟨rfl, hc⟩
 rw [show chkS e.q = 0 from k3.out]
 replace CC := Lib.hid (CC.out.trans hc)
 clear hc
 refine hK.out _ _ (DX.out _ CC.out) (fun hHeld => ?_)
 clear hK K; try simp only [Act.put, sA, s0, s1]
 refine sy 20 23 rfl rfl ?_ (hS := (DX.out _ CC.out))
 try simp only [Act.put, sA, s0, s1]
 refine sy 21 24 rfl rfl ?_ (hS := (DX.out _ CC.out))
 try simp only [Act.put, sA, s0, s1]
 refine sy 22 25 rfl rfl ?_ (hS := (DX.out _ CC.out))
 try simp only [Act.put, sA, s0, s1]
 refine sy 23 26 rfl rfl ?_ (hS := (DX.out _ CC.out))
 try simp only [Act.put, sA, s0, s1]
 refine sy 24 27 rfl rfl ?_ (hS := (DX.out _ CC.out)) (hy := by (intro w hSw; (try dsimp only at hSw); obtain ⟨q0, q1, q2, q3, q4, q5, q6⟩ := hSw; go_simp; try with_reducible rfl))
 try simp only [Act.put, sA, s0, s1]
 refine sy 25 28 rfl rfl ?_ (hS := (DX.out _ CC.out))
 try simp only [Act.put, sA, s0, s1]
 refine sy 26 29 rfl rfl ?_ (hS := (DX.out _ CC.out))
 try simp only [Act.put, sA, s0, s1]
 refine sy 27 30 rfl rfl ?_ (hS := (DX.out _ CC.out)) (hy := by (intro w hSw; (try dsimp only at hSw); obtain ⟨q0, q1, q2, q3, q4, q5, q6⟩ := hSw; go_simp; try with_reducible rfl))
 try simp only [Act.put, sA, s0, s1]
 refine sy 29 32 rfl rfl ?_ (hS := (DX.out _ CC.out))
 try simp only [Act.put, sA, s0, s1]
 refine sy 30 33 rfl rfl ?_ (hS := (DX.out _ CC.out))
 try simp only [Act.put, sA, s0, s1]
 refine sy 31 34 rfl rfl ?_ (hS := (DX.out _ CC.out)) (hy := by (intro w hSw; (try dsimp only at hSw); obtain ⟨q0, q1, q2, q3, q4, q5, q6⟩ := hSw; go_simp; try with_reducible rfl))
 try simp only [Act.put, sA, s0, s1]
 refine wpAnyH_ready (rs := [28]) (by kernel_rfl) (by simp) ?_; refine AllReadyH.cons rfl (fun K hK => ?_) AllReadyH.nil; replace hK := Lib.hid hK; go_simp
 refine (qlast_any wc x.B x.bc e.q e.n (by have := HR.out.B.chg CC.out (by simp); rw [HR.out.bl] at this; exact this) HS.out.2.2).mono ?_
 rintro r wc ⟨rfl, hc⟩
 rw [LV.out]
 replace CC := Lib.hid (CC.out.trans hc)
 clear hc
 refine hK.out _ _ (DX.out _ CC.out) (fun hHeld => ?_)
 clear hK K; try simp only [Act.put, sA, s0, s1]
 refine sy 32 35 rfl rfl ?_ (hS := (DX.out _ CC.out))
 try simp only [Act.put, sA, s0, s1]
 refine sy 33 36 rfl rfl ?_ (hS := (DX.out _ CC.out))
 try simp only [Act.put, sA, s0, s1]
 refine wpAnyH_done (by kernel_rfl) ?_ _; clear hHeld; go_wp2; go_ret
 exact ⟨rfl, C.out.trans CC.out⟩

theorem vecheck_any (w : World) (x : EvT) (e : EvP) (h : EvR w x e) (hs : EvSm e) :
  Calls Tryz.prog 49 #[.agg #[.int .i64 x.n, .int .i64 x.s, .string x.p, .int .i64 x.k, .int .i64 x.m, .slice x.A x.l x.c, .slice x.B x.bl x.bc]] w fun r w' => r = .returned (.int .i64 (chkEv e)) ∧ Chg [] w w' := by
 by_cases h0 : evOk e 0
 rotate_left
 ·
  rw [chkEv_no 0 (by omega) h0]
  exact vecheck_0 w x e h hs (fun i hi => by omega) h0
 by_cases h1 : evOk e 1
 rotate_left
 ·
  rw [chkEv_no 1 (by omega) h1]
  exact vecheck_1 w x e h hs (fun i hi => by match i, hi with | 0, _ => exact h0) h1
 by_cases h2 : evOk e 2
 rotate_left
 ·
  rw [chkEv_no 2 (by omega) h2]
  exact vecheck_2 w x e h hs (fun i hi => by match i, hi with | 0, _ => exact h0 | 1, _ => exact h1) h2
 by_cases h3 : evOk e 3
 rotate_left
 ·
  rw [chkEv_no 3 (by omega) h3]
  exact vecheck_3 w x e h hs (fun i hi => by match i, hi with | 0, _ => exact h0 | 1, _ => exact h1 | 2, _ => exact h2) h3
 by_cases h4 : evOk e 4
 rotate_left
 ·
  rw [chkEv_no 4 (by omega) h4]
  exact vecheck_4 w x e h hs (fun i hi => by match i, hi with | 0, _ => exact h0 | 1, _ => exact h1 | 2, _ => exact h2 | 3, _ => exact h3) h4
 have ha : ∀ i, i < 5 → evOk e i := fun i hi => by match i, hi with | 0, _ => exact h0 | 1, _ => exact h1 | 2, _ => exact h2 | 3, _ => exact h3 | 4, _ => exact h4
 rw [chkEv_yes ha]
 exact vecheck_5 w x e h hs ha
end
section
open Go.RowKit Go.Lib


theorem qhasx_any (w : World) (x y : EvT) (e f : EvP) (hx : EvR w x e) (hy : EvR w y f) (hs : EvSm f) :
  Calls Tryz.prog 67 #[.slice y.B y.bl y.bc, .agg #[.int .i64 x.n, .int .i64 x.s]] w fun r w' => r = .returned (.bool (hasE f.q e.n e.s)) ∧ Chg [] w w' := by
 have h1 := hx.n
 have h2 := hx.s
 have h3 := hy.bl
 have h4 := hy.B
 rw [h3] at h4 ⊢
 rw [h1, h2]
 exact qhas_any w y.B y.bc f.q e.n e.s h4 hs.2.2

set_option maxRecDepth 100000 in
set_option maxHeartbeats 8000000 in
theorem veahead_any (w : World) (x y : EvT) (e f : EvP) (hx : EvR w x e) (hy : EvR w y f) (hs : EvSm e) (ht : EvSm f) :
  Calls Tryz.prog 120 #[.agg #[.int .i64 x.n, .int .i64 x.s, .string x.p, .int .i64 x.k, .int .i64 x.m, .slice x.A x.l x.c, .slice x.B x.bl x.bc], .agg #[.int .i64 y.n, .int .i64 y.s, .string y.p, .int .i64 y.k, .int .i64 y.m, .slice y.A y.l y.c, .slice y.B y.bl y.bc]] w fun r w' => r = .returned (.bool (aheadP e f)) ∧ Chg [] w w' := by
 obtain ⟨w2, hw, hc, b0, b1⟩ := news2 w (.cells #[.int .i64 x.n, .int .i64 x.s, .string x.p, .int .i64 x.k, .int .i64 x.m, .slice x.A x.l x.c, .slice x.B x.bl x.bc] 30) (.cells #[.int .i64 y.n, .int .i64 y.s, .string y.p, .int .i64 y.k, .int .i64 y.m, .slice y.A y.l y.c, .slice y.B y.bl y.bc] 30)
 have W2 := Lib.hid hw
 have C := Lib.hid hc
 have HX := Lib.hid (hx.chg hc)
 have HY := Lib.hid (hy.chg hc)
 have HS := Lib.hid hs
 have HT := Lib.hid ht
 have B0 := Lib.hid b0
 have B1 := Lib.hid b1
 generalize hv : aheadP e f = v
 have HV := Lib.hid hv
 clear hv hw hc hx hy hs ht b0 b1
 go_enter Tryz.func120, Tryz.ntmps120
 go_upto_region 1 with fail
 rw [← W2.out]
 generalize w.heap.size + 1 = g1 at *
 generalize w.heap.size = g0 at *
 have z0 := cell_of B0.out 0
 have z1 := cell_of B0.out 1
 have z2 := cell_of B0.out 2
 have z3 := cell_of B0.out 3
 have z4 := cell_of B0.out 4
 have z5 := cell_of B0.out 5
 have z6 := cell_of B0.out 6
 have y0 := cell_of B1.out 0
 have y1 := cell_of B1.out 1
 have y2 := cell_of B1.out 2
 have y3 := cell_of B1.out 3
 have y4 := cell_of B1.out 4
 have y5 := cell_of B1.out 5
 have y6 := cell_of B1.out 6
 simp only [List.getElem?_toArray, List.getElem?_cons_succ, List.getElem?_cons_zero] at z0 y0 z1 y1 z2 y2 z3 y3 z4 y4 z5 y5 z6 y6
 go_wp2_with fail
 refine (vecheck_any w2 x e HX.out HS.out).mono ?_
 rintro r w3 ⟨rfl, hc⟩
 clear z0 y0 z1 y1 z2 y2 z3 y3 z4 y4 z5 y5 z6 y6
 replace C := Lib.hid (C.out.trans hc)
 replace HX := Lib.hid (HX.out.chg hc)
 replace HY := Lib.hid (HY.out.chg hc)
 replace B0 := Lib.hid (hc.at_ B0.out (by simp))
 replace B1 := Lib.hid (hc.at_ B1.out (by simp))
 clear hc
 rcases chkEv_two e with ha | ha
 rotate_left
 ·
  obtain rfl : v = false := by rw [← HV.out]; unfold aheadP; rw [ha]; simp
  rw [ha]
  go_wp2; go_ret
  exact ⟨rfl, C.out⟩
 rw [ha]
 have z0 := cell_of B0.out 0
 have z1 := cell_of B0.out 1
 have z2 := cell_of B0.out 2
 have z3 := cell_of B0.out 3
 have z4 := cell_of B0.out 4
 have z5 := cell_of B0.out 5
 have z6 := cell_of B0.out 6
 have y0 := cell_of B1.out 0
 have y1 := cell_of B1.out 1
 have y2 := cell_of B1.out 2
 have y3 := cell_of B1.out 3
 have y4 := cell_of B1.out 4
 have y5 := cell_of B1.out 5
 have y6 := cell_of B1.out 6
 simp only [List.getElem?_toArray, List.getElem?_cons_succ, List.getElem?_cons_zero] at z0 y0 z1 y1 z2 y2 z3 y3 z4 y4 z5 y5 z6 y6
 go_wp2_with fail
 refine (vecheck_any w3 y f HY.out HT.out).mono ?_
 rintro r w4 ⟨rfl, hc⟩
 clear z0 y0 z1 y1 z2 y2 z3 y3 z4 y4 z5 y5 z6 y6
 replace C := Lib.hid (C.out.trans hc)
 replace HX := Lib.hid (HX.out.chg hc)
 replace HY := Lib.hid (HY.out.chg hc)
 replace B0 := Lib.hid (hc.at_ B0.out (by simp))
 replace B1 := Lib.hid (hc.at_ B1.out (by simp))
 clear hc
 rcases chkEv_two f with hb | hb
 rotate_left
 ·
  obtain rfl : v = false := by rw [← HV.out]; unfold aheadP; rw [hb]; simp
  rw [hb]
  go_wp2; go_ret
  exact ⟨rfl, C.out⟩
 rw [hb]
 have z0 := cell_of B0.out 0
 have z1 := cell_of B0.out 1
 have z2 := cell_of B0.out 2
 have z3 := cell_of B0.out 3
 have z4 := cell_of B0.out 4
 have z5 := cell_of B0.out 5
 have z6 := cell_of B0.out 6
 have y0 := cell_of B1.out 0
 have y1 := cell_of B1.out 1
 have y2 := cell_of B1.out 2
 have y3 := cell_of B1.out 3
 have y4 := cell_of B1.out 4
 have y5 := cell_of B1.out 5
 have y6 := cell_of B1.out 6
 simp only [List.getElem?_toArray, List.getElem?_cons_succ, List.getElem?_cons_zero] at z0 y0 z1 y1 z2 y2 z3 y3 z4 y4 z5 y5 z6 y6
 go_wp2_with fail
 refine (qhasx_any w4 x y e f HX.out HY.out HT.out).mono ?_
 rintro r w5 ⟨rfl, hc⟩
 clear z0 y0 z1 y1 z2 y2 z3 y3 z4 y4 z5 y5 z6 y6
 replace C := Lib.hid (C.out.trans hc)
 replace HX := Lib.hid (HX.out.chg hc)
 replace HY := Lib.hid (HY.out.chg hc)
 replace B0 := Lib.hid (hc.at_ B0.out (by simp))
 replace B1 := Lib.hid (hc.at_ B1.out (by simp))
 clear hc
 rcases hh : hasE f.q e.n e.s with _ | _
 ·
  obtain rfl : v = false := by rw [← HV.out]; unfold aheadP; rw [hh]; rfl
  go_wp2; go_ret
  exact ⟨rfl, C.out⟩
 obtain rfl : v = true := by rw [← HV.out]; unfold aheadP; rw [hh, ha, hb]; rfl
 go_wp2; go_ret
 exact ⟨rfl, C.out⟩
end
end Go.Proofs.YtomgjogkkoigbaaGreatDoor
