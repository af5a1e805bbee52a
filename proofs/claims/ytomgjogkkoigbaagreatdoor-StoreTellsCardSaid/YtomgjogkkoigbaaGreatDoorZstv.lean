/- shelf.Check. shelf.find. shelf.without. shelf.Put. Those of a list of events that are asked for. What is asked of a store's events: their path, whether it is near, whether their dot is known. -/
import Derived.Test.YtomgjogkkoigbaaGreatDoorZstu
import Derived.Test.YtomgjogkkoigbaaGreatDoorZsts
import Derived.Test.YtomgjogkkoigbaaGreatDoorZstd
import Derived.Deep.Cut
import Derived.BigQuiet
import Derived.Test.YtomgjogkkoigbaaGreatDoorZstn
import Derived.Test.YtomgjogkkoigbaaGreatDoorZstr
import Derived.RangeFuncCalls
import Derived.Test.YtomgjogkkoigbaaGreatDoorZstj
set_option linter.unusedSimpArgs false
set_option linter.unusedVariables false
namespace Go.Proofs.YtomgjogkkoigbaaGreatDoor
section
open Go.RowKit Go.Lib


theorem strOf_lists (l : List UInt8) : (strOf l).toList = l := by rw [ByteArray.toList_eq]; rfl
theorem strOf_ne3s {a b : List UInt8} (h : a ≠ b) : ¬ (strOf a).toList = (strOf b).toList := by rw [strOf_lists, strOf_lists]; exact h
set_option maxRecDepth 100000 in
set_option maxHeartbeats 16000000 in
theorem shcheck_any (w : World) (A : Option Addr) (c : Nat) (xs : List EvT) (es : List EvP) (h : RdK evTy w A xs.length xs) (hx : EvsR w xs es) (hn : xs.length ≤ 100000) (hs : ∀ e ∈ es, EvSm e) :
  Calls Tryz.prog 54 #[.slice A xs.length c] w fun r w' => r = .returned (.int .i64 (shE es)) ∧ Chg [] w w' := by

 have HX := Lib.hid hx
 have HN := Lib.hid hn
 have HS := Lib.hid hs
 have HA := Lib.hid h
 clear h hx hn hs
 go_enter Tryz.func54, Tryz.ntmps54
 go_wp2
 go_loopw [9] (fun v9 wr => ∃ (k : Nat), k ≤ xs.length ∧ v9 = .int .i64 k ∧ Hid (ShTo es k) ∧ Hid (Chg [] w wr)) (fun v9 _ => xs.length - (RowKit.intOf v9).toNat)
 case atStart => exact ⟨0, Nat.zero_le _, rfl, Lib.hid (shTo_zero _), Chg.refl _ _⟩
 case round =>
  obtain ⟨k, hk, rfl, ST, PC⟩ := hrel
  have j0 : (0 : Int) ≤ (k : Int) := by omega
  by_cases hlt : k < xs.length
  ·
   have j1 : (k : Int) < (xs.length : Int) := by omega
   have j3 : IntKind.i64.wrap ((k : Int) + 1) = (k : Int) + 1 := IntWalk.i64_in _ (by have := HN.out; omega)
   obtain ⟨g3, o3, eA, _⟩ := HA.out.line (by omega)
   subst eA
   obtain ⟨x, e, ex, ee, rx⟩ := HX.out.at_ hlt
   obtain ⟨y0, f0, ey0, ef0, ry0⟩ := HX.out.at_ (show 0 < xs.length by omega)
   obtain ⟨z0, z1, z2, z3, z4, z5, z6⟩ := evCells (HA.out.chg PC.out (by simp)) ex
   have EX := Lib.hid ex
   have EE := Lib.hid ee
   have RX1 := Lib.hid rx
   have EF0 := Lib.hid ef0
   have XP : Hid (x.p = strOf e.p ∧ y0.p = strOf f0.p) := Lib.hid ⟨rx.p, ry0.p⟩
   have EY0 := Lib.hid ey0
   have ES1 := Lib.hid (HS.out e (List.mem_of_getElem? ee))
   clear ex ee rx ey0 ef0 ry0
   obtain ⟨w5, hw5, c5, b5⟩ := news1 wr (.cells #[.int .i64 x.n, .int .i64 x.s, .string x.p, .int .i64 x.k, .int .i64 x.m, .slice x.A x.l x.c, .slice x.B x.bl x.bc] 30)
   have W5 := Lib.hid hw5
   have B5 := Lib.hid b5
   replace PC := Lib.hid (PC.out.trans c5)
   clear hw5 c5 b5
   go_upto_region 4 with fail
   rw [← W5.out]
   generalize wr.heap.size = g6 at *
   clear W5 z0 z1 z2 z3 z4 z5 z6
   have HB : Hid (∀ w', Chg [] w5 w' → (w'.cell? ⟨g6, 0, none⟩ = some (.int .i64 x.n) ∧ w'.cell? ⟨g6, 1, none⟩ = some (.int .i64 x.s) ∧ w'.cell? ⟨g6, 2, none⟩ = some (.string x.p) ∧ w'.cell? ⟨g6, 3, none⟩ = some (.int .i64 x.k) ∧ w'.cell? ⟨g6, 4, none⟩ = some (.int .i64 x.m) ∧ w'.cell? ⟨g6, 5, none⟩ = some (.slice x.A x.l x.c) ∧ w'.cell? ⟨g6, 6, none⟩ = some (.slice x.B x.bl x.bc))) := Lib.hid (fun w' hc => by
    have b := hc.at_ B5.out (by simp)
    exact ⟨cell_of b 0, cell_of b 1, cell_of b 2, cell_of b 3, cell_of b 4, cell_of b 5, cell_of b 6⟩)
   have HR : Hid (∀ w', Chg [] w5 w' → ∀ y, xs[k - 1]? = some y → w'.cell? ⟨g3, o3 + (k - 1) * 7, none⟩ = some (.int .i64 y.n) ∧ w'.cell? ⟨g3, o3 + (k - 1) * 7 + 1, none⟩ = some (.int .i64 y.s)) := Lib.hid (fun w' hc y hy => by
    have q := evCells (HA.out.chg (PC.out.trans hc) (by simp)) hy
    exact ⟨q.1, q.2.1⟩)
   have H0 : Hid (∀ w', Chg [] w5 w' → w'.cell? ⟨g3, o3 + 2, none⟩ = some (.string y0.p)) := Lib.hid (fun w' hc => by
    have q := evCells (HA.out.chg (PC.out.trans hc) (by simp)) EY0.out
    rw [Nat.zero_mul, Nat.add_zero] at q
    exact q.2.2.1)
   have CHK : Hid (∀ w', Chg [] w5 w' → Calls Tryz.prog 46 #[.agg #[.int .i64 x.n, .int .i64 x.s, .string x.p, .int .i64 x.k, .int .i64 x.m, .slice x.A x.l x.c, .slice x.B x.bl x.bc]] w' fun r w2 => r = .returned (.int .i64 (chkEv e)) ∧ Chg [] w' w2) := Lib.hid (fun w' hc => evcheck_any w' x e (RX1.out.chg (PC.out.trans hc)) ES1.out)
   rcases chkEv_two e with e1 | e1
   rotate_left
   ·
    have NO : Hid (shE es = 2) := Lib.hid (sh_no_chk EE.out (by omega))
    refine wp_region_held_drew (S := fun w' => Chg [] w5 w') (by kernel_rfl) (Chg.refl [] w5).drew (fun hHeld => ?_)
    refine sy 0 14 rfl rfl ?_ (hy := by (intro w hSw; (try dsimp only at hSw); have hq := HB.out _ hSw; obtain ⟨q0, q1, q2, q3, q4, q5, q6⟩ := hq; go_simp; try with_reducible rfl))
    try simp only [Act.put, sA, s0, s1]
    refine wpAnyH_ready (rs := [1]) (by kernel_rfl) (by simp) ?_; refine AllReadyH.cons rfl (fun K hK => ?_) AllReadyH.nil; replace hK := Lib.hid hK; go_simp
    refine (CHK.out _ hHeld).mono ?_
    rintro r w9 ⟨rfl, hc⟩
    rw [e1]
    have C9 := Lib.hid (hHeld.trans hc)
    clear hc hHeld
    refine hK.out _ _ C9.out (fun hHeld => ?_)
    clear hK K; try simp only [Act.put, sA, s0, s1]
    refine sy 2 16 rfl rfl ?_; try simp only [Act.put, sA, s0, s1]
    refine sy 3 17 rfl rfl ?_; try simp only [Act.put, sA, s0, s1]
    refine sn 4 18 rfl rfl ?_; try simp only [Act.put, sA, s0, s1]
    refine sn 5 19 rfl rfl ?_; try simp only [Act.put, sA, s0, s1]
    refine sn 6 20 rfl rfl ?_; try simp only [Act.put, sA, s0, s1]
    refine sn 7 21 rfl rfl ?_; try simp only [Act.put, sA, s0, s1]
    refine sn 8 22 rfl rfl ?_; try simp only [Act.put, sA, s0, s1]
    refine sn 9 23 rfl rfl ?_; try simp only [Act.put, sA, s0, s1]
    refine sn 10 24 rfl rfl ?_; try simp only [Act.put, sA, s0, s1]
    refine sn 11 25 rfl rfl ?_; try simp only [Act.put, sA, s0, s1]
    refine sn 12 26 rfl rfl ?_; try simp only [Act.put, sA, s0, s1]
    refine sn 13 27 rfl rfl ?_; try simp only [Act.put, sA, s0, s1]
    refine sn 14 28 rfl rfl ?_; try simp only [Act.put, sA, s0, s1]
    refine sn 15 29 rfl rfl ?_; try simp only [Act.put, sA, s0, s1]
    refine sn 16 30 rfl rfl ?_; try simp only [Act.put, sA, s0, s1]
    refine sn 17 31 rfl rfl ?_; try simp only [Act.put, sA, s0, s1]
    refine sn 18 32 rfl rfl ?_; try simp only [Act.put, sA, s0, s1]
    refine sn 19 33 rfl rfl ?_; try simp only [Act.put, sA, s0, s1]
    refine sn 20 34 rfl rfl ?_; try simp only [Act.put, sA, s0, s1]
    refine sn 21 35 rfl rfl ?_; try simp only [Act.put, sA, s0, s1]
    refine sn 22 36 rfl rfl ?_; try simp only [Act.put, sA, s0, s1]
    refine sn 23 37 rfl rfl ?_; try simp only [Act.put, sA, s0, s1]
    refine sn 24 38 rfl rfl ?_; try simp only [Act.put, sA, s0, s1]
    refine sn 25 39 rfl rfl ?_; try simp only [Act.put, sA, s0, s1]
    refine sn 26 40 rfl rfl ?_; try simp only [Act.put, sA, s0, s1]
    refine sy 27 41 rfl rfl ?_; try simp only [Act.put, sA, s0, s1]
    refine wpAnyH_done (by kernel_rfl) ?_ _; clear hHeld HB HR H0 CHK; go_wp2; go_ret
    rw [NO.out]
    exact ⟨rfl, PC.out.trans C9.out⟩
   by_cases k0 : k = 0
   ·
    subst k0
    have OT : Hid (ShTo es (0 + 1)) := Lib.hid (shTo_next ST.out EE.out e1 (fun f hf => by rw [EE.out] at hf; cases hf; rfl) (.inl rfl))
    refine wp_region_held_drew (S := fun w' => Chg [] w5 w') (by kernel_rfl) (Chg.refl [] w5).drew (fun hHeld => ?_)
    refine sy 0 14 rfl rfl ?_ (hy := by (intro w hSw; (try dsimp only at hSw); have hq := HB.out _ hSw; obtain ⟨q0, q1, q2, q3, q4, q5, q6⟩ := hq; go_simp; try with_reducible rfl))
    try simp only [Act.put, sA, s0, s1]
    refine wpAnyH_ready (rs := [1]) (by kernel_rfl) (by simp) ?_; refine AllReadyH.cons rfl (fun K hK => ?_) AllReadyH.nil; replace hK := Lib.hid hK; go_simp
    refine (CHK.out _ hHeld).mono ?_
    rintro r w9 ⟨rfl, hc⟩
    rw [e1]
    have C9 := Lib.hid (hHeld.trans hc)
    clear hc hHeld
    refine hK.out _ _ C9.out (fun hHeld => ?_)
    clear hK K; try simp only [Act.put, sA, s0, s1]
    refine sy 2 16 rfl rfl ?_; try simp only [Act.put, sA, s0, s1]
    refine sy 3 17 rfl rfl ?_; try simp only [Act.put, sA, s0, s1]
    refine sy 4 18 rfl rfl ?_; try simp only [Act.put, sA, s0, s1]
    refine sy 5 19 rfl rfl ?_; try simp only [Act.put, sA, s0, s1]
    refine sy 6 20 rfl rfl ?_; try simp only [Act.put, sA, s0, s1]
    refine sn 7 21 rfl rfl ?_; try simp only [Act.put, sA, s0, s1]
    refine sn 8 22 rfl rfl ?_; try simp only [Act.put, sA, s0, s1]
    refine sn 9 23 rfl rfl ?_; try simp only [Act.put, sA, s0, s1]
    refine sn 10 24 rfl rfl ?_; try simp only [Act.put, sA, s0, s1]
    refine sn 11 25 rfl rfl ?_; try simp only [Act.put, sA, s0, s1]
    refine sn 12 26 rfl rfl ?_; try simp only [Act.put, sA, s0, s1]
    refine sn 13 27 rfl rfl ?_; try simp only [Act.put, sA, s0, s1]
    refine sn 14 28 rfl rfl ?_; try simp only [Act.put, sA, s0, s1]
    refine sn 15 29 rfl rfl ?_; try simp only [Act.put, sA, s0, s1]
    refine sn 16 30 rfl rfl ?_; try simp only [Act.put, sA, s0, s1]
    refine sn 17 31 rfl rfl ?_; try simp only [Act.put, sA, s0, s1]
    refine sn 18 32 rfl rfl ?_; try simp only [Act.put, sA, s0, s1]
    refine sn 19 33 rfl rfl ?_; try simp only [Act.put, sA, s0, s1]
    refine sn 20 34 rfl rfl ?_; try simp only [Act.put, sA, s0, s1]
    refine sn 21 35 rfl rfl ?_; try simp only [Act.put, sA, s0, s1]
    refine sn 22 36 rfl rfl ?_; try simp only [Act.put, sA, s0, s1]
    refine sn 23 37 rfl rfl ?_; try simp only [Act.put, sA, s0, s1]
    refine sn 24 38 rfl rfl ?_; try simp only [Act.put, sA, s0, s1]
    refine sn 25 39 rfl rfl ?_; try simp only [Act.put, sA, s0, s1]
    refine sy 26 40 rfl rfl ?_; try simp only [Act.put, sA, s0, s1]
    refine sy 27 41 rfl rfl ?_; try simp only [Act.put, sA, s0, s1]
    refine wpAnyH_done (by kernel_rfl) ?_ _; clear hHeld HB HR H0 CHK
    have RC9 := Lib.hid (PC.out.trans C9.out)
    go_wp2; go_round
    case rel => exact ⟨0 + 1, by omega, by go_num, OT, RC9⟩
    case measure => simp [RowKit.intOf]; omega
   obtain ⟨y, f, ey, ef, ry⟩ := HX.out.at_ (show k - 1 < xs.length by omega)
   have EY := Lib.hid ey
   have EF := Lib.hid ef
   have YD : Hid (y.n = f.n ∧ y.s = f.s ∧ x.n = e.n ∧ x.s = e.s) := Lib.hid ⟨ry.n, ry.s, RX1.out.n, RX1.out.s⟩
   clear ey ef ry
   have l0 : (0 : Int) < (xs.length : Int) := by omega
   have l1 : 0 < xs.length := by omega
   have g1 : (0 : Int) < (k : Int) := by omega
   have g2 : 0 < k := by omega
   have g3' : decide ((0 : Int) < (k : Int)) = true := by simp; omega
   have g4 : decide (0 < k) = true := by simp; omega
   have w1' : IntKind.i64.wrap ((k : Int) - 1) = ((k - 1 : Nat) : Int) := by rw [IntWalk.i64_in _ (by have := HN.out; omega)]; omega
   have g5 : (0 : Int) ≤ ((k - 1 : Nat) : Int) := by omega
   have g6' : ((k - 1 : Nat) : Int) < (xs.length : Int) := by omega
   have g7 : k - 1 < xs.length := by omega
   by_cases hp : e.p = f0.p
   rotate_left
   ·
    have NO : Hid (shE es = 2) := Lib.hid (sh_no_path EE.out EF0.out hp)
    have p1' : ((x.p == y0.p) : Bool) = false := by rw [XP.out.1, XP.out.2]; exact strOf_ne hp
    have p2' : ¬ x.p = y0.p := by rw [XP.out.1, XP.out.2]; exact strOf_ne2 hp
    have p3' : ¬ x.p.toList = y0.p.toList := by rw [XP.out.1, XP.out.2]; exact strOf_ne3s hp
    have p4' : ((x.p.toList == y0.p.toList) : Bool) = false := by simpa using p3' 
    refine wp_region_held_drew (S := fun w' => Chg [] w5 w') (by kernel_rfl) (Chg.refl [] w5).drew (fun hHeld => ?_)
    refine sy 0 14 rfl rfl ?_ (hy := by (intro w hSw; (try dsimp only at hSw); have hq := HB.out _ hSw; obtain ⟨q0, q1, q2, q3, q4, q5, q6⟩ := hq; go_simp; try with_reducible rfl))
    try simp only [Act.put, sA, s0, s1]
    refine wpAnyH_ready (rs := [1]) (by kernel_rfl) (by simp) ?_; refine AllReadyH.cons rfl (fun K hK => ?_) AllReadyH.nil; replace hK := Lib.hid hK; go_simp
    refine (CHK.out _ hHeld).mono ?_
    rintro r w9 ⟨rfl, hc⟩
    rw [e1]
    have C9 := Lib.hid (hHeld.trans hc)
    clear hc hHeld
    refine hK.out _ _ C9.out (fun hHeld => ?_)
    clear hK K; try simp only [Act.put, sA, s0, s1]
    refine sy 2 16 rfl rfl ?_; try simp only [Act.put, sA, s0, s1]
    refine sy 3 17 rfl rfl ?_; try simp only [Act.put, sA, s0, s1]
    refine sy 4 18 rfl rfl ?_; try simp only [Act.put, sA, s0, s1]
    refine sy 5 19 rfl rfl ?_; try simp only [Act.put, sA, s0, s1]
    refine sy 6 20 rfl rfl ?_; try simp only [Act.put, sA, s0, s1]
    refine sy 7 21 rfl rfl ?_; try simp only [Act.put, sA, s0, s1]
    refine sy 8 22 rfl rfl ?_ (hy := by (intro w hSw; (try dsimp only at hSw); have hq := HB.out _ hSw; obtain ⟨q0, q1, q2, q3, q4, q5, q6⟩ := hq; go_simp; try with_reducible rfl))
    try simp only [Act.put, sA, s0, s1]
    refine sy 9 23 rfl rfl ?_; try simp only [Act.put, sA, s0, s1]
    refine sy 10 24 rfl rfl ?_; try simp only [Act.put, sA, s0, s1]
    refine sy 11 25 rfl rfl ?_; try simp only [Act.put, sA, s0, s1]
    refine sy 12 26 rfl rfl ?_ (hy := by (intro w hSw; (try dsimp only at hSw); have hq := H0.out _ hSw; go_simp; try with_reducible rfl))
    try simp only [Act.put, sA, s0, s1]
    refine sy 13 27 rfl rfl ?_; try simp only [Act.put, sA, s0, s1]
    refine sy 14 28 rfl rfl ?_; try simp only [Act.put, sA, s0, s1]
    refine sn 15 29 rfl rfl ?_; try simp only [Act.put, sA, s0, s1]
    refine sn 16 30 rfl rfl ?_; try simp only [Act.put, sA, s0, s1]
    refine sn 17 31 rfl rfl ?_; try simp only [Act.put, sA, s0, s1]
    refine sn 18 32 rfl rfl ?_; try simp only [Act.put, sA, s0, s1]
    refine sn 19 33 rfl rfl ?_; try simp only [Act.put, sA, s0, s1]
    refine sn 20 34 rfl rfl ?_; try simp only [Act.put, sA, s0, s1]
    refine sn 21 35 rfl rfl ?_; try simp only [Act.put, sA, s0, s1]
    refine sn 22 36 rfl rfl ?_; try simp only [Act.put, sA, s0, s1]
    refine sn 23 37 rfl rfl ?_; try simp only [Act.put, sA, s0, s1]
    refine sn 24 38 rfl rfl ?_; try simp only [Act.put, sA, s0, s1]
    refine sy 25 39 rfl rfl ?_; try simp only [Act.put, sA, s0, s1]
    refine sy 26 40 rfl rfl ?_; try simp only [Act.put, sA, s0, s1]
    refine sy 27 41 rfl rfl ?_; try simp only [Act.put, sA, s0, s1]
    refine wpAnyH_done (by kernel_rfl) ?_ _; clear hHeld HB HR H0 CHK; go_wp2; go_ret
    rw [NO.out]
    exact ⟨rfl, PC.out.trans C9.out⟩
   have HP := Lib.hid hp
   have p1' : ((x.p == y0.p) : Bool) = true := by rw [XP.out.1, XP.out.2, hp]; show ((f0.p.toArray == f0.p.toArray) : Bool) = true; simp
   have p4' : ((x.p.toList == y0.p.toList) : Bool) = true := by rw [XP.out.1, XP.out.2, hp]; simp
   clear hp
   by_cases hl : LtD y.n y.s x.n x.s
   rotate_left
   ·
    have NO : Hid (shE es = 2) := Lib.hid (sh_no_lt EE.out EF.out (by omega) (fun q => hl (by rw [YD.out.1, YD.out.2.1, YD.out.2.2.1, YD.out.2.2.2]; exact q)))
    have dl := decide_eq_false hl
    clear hl
    refine wp_region_held_drew (S := fun w' => Chg [] w5 w') (by kernel_rfl) (Chg.refl [] w5).drew (fun hHeld => ?_)
    refine sy 0 14 rfl rfl ?_ (hy := by (intro w hSw; (try dsimp only at hSw); have hq := HB.out _ hSw; obtain ⟨q0, q1, q2, q3, q4, q5, q6⟩ := hq; go_simp; try with_reducible rfl))
    try simp only [Act.put, sA, s0, s1]
    refine wpAnyH_ready (rs := [1]) (by kernel_rfl) (by simp) ?_; refine AllReadyH.cons rfl (fun K hK => ?_) AllReadyH.nil; replace hK := Lib.hid hK; go_simp
    refine (CHK.out _ hHeld).mono ?_
    rintro r w9 ⟨rfl, hc⟩
    rw [e1]
    have C9 := Lib.hid (hHeld.trans hc)
    clear hc hHeld
    refine hK.out _ _ C9.out (fun hHeld => ?_)
    clear hK K; try simp only [Act.put, sA, s0, s1]
    refine sy 2 16 rfl rfl ?_; try simp only [Act.put, sA, s0, s1]
    refine sy 3 17 rfl rfl ?_; try simp only [Act.put, sA, s0, s1]
    refine sy 4 18 rfl rfl ?_; try simp only [Act.put, sA, s0, s1]
    refine sy 5 19 rfl rfl ?_; try simp only [Act.put, sA, s0, s1]
    refine sy 6 20 rfl rfl ?_; try simp only [Act.put, sA, s0, s1]
    refine sy 7 21 rfl rfl ?_; try simp only [Act.put, sA, s0, s1]
    refine sy 8 22 rfl rfl ?_ (hy := by (intro w hSw; (try dsimp only at hSw); have hq := HB.out _ hSw; obtain ⟨q0, q1, q2, q3, q4, q5, q6⟩ := hq; go_simp; try with_reducible rfl))
    try simp only [Act.put, sA, s0, s1]
    refine sy 9 23 rfl rfl ?_; try simp only [Act.put, sA, s0, s1]
    refine sy 10 24 rfl rfl ?_; try simp only [Act.put, sA, s0, s1]
    refine sy 11 25 rfl rfl ?_; try simp only [Act.put, sA, s0, s1]
    refine sy 12 26 rfl rfl ?_ (hy := by (intro w hSw; (try dsimp only at hSw); have hq := H0.out _ hSw; go_simp; try with_reducible rfl))
    try simp only [Act.put, sA, s0, s1]
    refine sy 13 27 rfl rfl ?_; try simp only [Act.put, sA, s0, s1]
    refine sy 14 28 rfl rfl ?_; try simp only [Act.put, sA, s0, s1]
    refine sy 15 29 rfl rfl ?_; try simp only [Act.put, sA, s0, s1]
    refine sy 16 30 rfl rfl ?_; try simp only [Act.put, sA, s0, s1]
    refine sy 17 31 rfl rfl ?_; try simp only [Act.put, sA, s0, s1]
    refine sy 18 32 rfl rfl ?_; try simp only [Act.put, sA, s0, s1]
    refine sy 19 33 rfl rfl ?_; try simp only [Act.put, sA, s0, s1]
    refine sy 20 34 rfl rfl ?_ (hy := by (intro w hSw; (try dsimp only at hSw); have hq := HR.out _ hSw y EY.out; obtain ⟨p0, p1⟩ := hq; go_simp; try with_reducible rfl))
    try simp only [Act.put, sA, s0, s1]
    refine sy 21 35 rfl rfl ?_; try simp only [Act.put, sA, s0, s1]
    refine sy 22 36 rfl rfl ?_ (hy := by (intro w hSw; (try dsimp only at hSw); have hq := HB.out _ hSw; obtain ⟨q0, q1, q2, q3, q4, q5, q6⟩ := hq; go_simp; try with_reducible rfl))
    try simp only [Act.put, sA, s0, s1]
    refine wpAnyH_ready (rs := [23]) (by kernel_rfl) (by simp) ?_; refine AllReadyH.cons rfl (fun K hK => ?_) AllReadyH.nil; replace hK := Lib.hid hK; go_simp
    refine (dless_any _ _ _ _ _).mono ?_
    rintro r w8 ⟨rfl, hc⟩
    rw [dl]
    have C8 := Lib.hid (hHeld.trans hc)
    clear hc hHeld
    refine hK.out _ _ C8.out (fun hHeld => ?_)
    clear hK K; try simp only [Act.put, sA, s0, s1]
    refine sy 24 38 rfl rfl ?_; try simp only [Act.put, sA, s0, s1]
    refine sy 25 39 rfl rfl ?_; try simp only [Act.put, sA, s0, s1]
    refine sy 26 40 rfl rfl ?_; try simp only [Act.put, sA, s0, s1]
    refine sy 27 41 rfl rfl ?_; try simp only [Act.put, sA, s0, s1]
    refine wpAnyH_done (by kernel_rfl) ?_ _; clear hHeld HB HR H0 CHK; go_wp2; go_ret
    rw [NO.out]
    exact ⟨rfl, PC.out.trans C8.out⟩
   have OT : Hid (ShTo es (k + 1)) := Lib.hid (shTo_next ST.out EE.out e1 (fun d hd => by rw [EF0.out] at hd; cases hd; exact HP.out) (.inr (fun d hd => by rw [EF.out] at hd; cases hd; unfold LtEv; rw [← YD.out.1, ← YD.out.2.1, ← YD.out.2.2.1, ← YD.out.2.2.2]; exact hl)))
   have dl := decide_eq_true hl
   clear hl
   refine wp_region_held_drew (S := fun w' => Chg [] w5 w') (by kernel_rfl) (Chg.refl [] w5).drew (fun hHeld => ?_)
   refine sy 0 14 rfl rfl ?_ (hy := by (intro w hSw; (try dsimp only at hSw); have hq := HB.out _ hSw; obtain ⟨q0, q1, q2, q3, q4, q5, q6⟩ := hq; go_simp; try with_reducible rfl))
   try simp only [Act.put, sA, s0, s1]
   refine wpAnyH_ready (rs := [1]) (by kernel_rfl) (by simp) ?_; refine AllReadyH.cons rfl (fun K hK => ?_) AllReadyH.nil; replace hK := Lib.hid hK; go_simp
   refine (CHK.out _ hHeld).mono ?_
   rintro r w9 ⟨rfl, hc⟩
   rw [e1]
   have C9 := Lib.hid (hHeld.trans hc)
   clear hc hHeld
   refine hK.out _ _ C9.out (fun hHeld => ?_)
   clear hK K; try simp only [Act.put, sA, s0, s1]
   refine sy 2 16 rfl rfl ?_; try simp only [Act.put, sA, s0, s1]
   refine sy 3 17 rfl rfl ?_; try simp only [Act.put, sA, s0, s1]
   refine sy 4 18 rfl rfl ?_; try simp only [Act.put, sA, s0, s1]
   refine sy 5 19 rfl rfl ?_; try simp only [Act.put, sA, s0, s1]
   refine sy 6 20 rfl rfl ?_; try simp only [Act.put, sA, s0, s1]
   refine sy 7 21 rfl rfl ?_; try simp only [Act.put, sA, s0, s1]
   refine sy 8 22 rfl rfl ?_ (hy := by (intro w hSw; (try dsimp only at hSw); have hq := HB.out _ hSw; obtain ⟨q0, q1, q2, q3, q4, q5, q6⟩ := hq; go_simp; try with_reducible rfl))
   try simp only [Act.put, sA, s0, s1]
   refine sy 9 23 rfl rfl ?_; try simp only [Act.put, sA, s0, s1]
   refine sy 10 24 rfl rfl ?_; try simp only [Act.put, sA, s0, s1]
   refine sy 11 25 rfl rfl ?_; try simp only [Act.put, sA, s0, s1]
   refine sy 12 26 rfl rfl ?_ (hy := by (intro w hSw; (try dsimp only at hSw); have hq := H0.out _ hSw; go_simp; try with_reducible rfl))
   try simp only [Act.put, sA, s0, s1]
   refine sy 13 27 rfl rfl ?_; try simp only [Act.put, sA, s0, s1]
   refine sy 14 28 rfl rfl ?_; try simp only [Act.put, sA, s0, s1]
   refine sy 15 29 rfl rfl ?_; try simp only [Act.put, sA, s0, s1]
   refine sy 16 30 rfl rfl ?_; try simp only [Act.put, sA, s0, s1]
   refine sy 17 31 rfl rfl ?_; try simp only [Act.put, sA, s0, s1]
   refine sy 18 32 rfl rfl ?_; try simp only [Act.put, sA, s0, s1]
   refine sy 19 33 rfl rfl ?_; try simp only [Act.put, sA, s0, s1]
   refine sy 20 34 rfl rfl ?_ (hy := by (intro w hSw; (try dsimp only at hSw); have hq := HR.out _ hSw y EY.out; obtain ⟨p0, p1⟩ := hq; go_simp; try with_reducible rfl))
   try simp only [Act.put, sA, s0, s1]
   refine sy 21 35 rfl rfl ?_; try simp only [Act.put, sA, s0, s1]
   refine sy 22 36 rfl rfl ?_ (hy := by (intro w hSw; (try dsimp only at hSw); have hq := HB.out _ hSw; obtain ⟨q0, q1, q2, q3, q4, q5, q6⟩ := hq; go_simp; try with_reducible rfl))
   try simp only [Act.put, sA, s0, s1]
   refine wpAnyH_ready (rs := [23]) (by kernel_rfl) (by simp) ?_; refine AllReadyH.cons rfl (fun K hK => ?_) AllReadyH.nil; replace hK := Lib.hid hK; go_simp
   refine (dless_any _ _ _ _ _).mono ?_
   rintro r w8 ⟨rfl, hc⟩
   rw [dl]
   have C8 := Lib.hid (hHeld.trans hc)
   clear hc hHeld
   refine hK.out _ _ C8.out (fun hHeld => ?_)
   clear hK K; try simp only [Act.put, sA, s0, s1]
   refine sy 24 38 rfl rfl ?_; try simp only [Act.put, sA, s0, s1]
   refine sy 25 39 rfl rfl ?_; try simp only [Act.put, sA, s0, s1]
   refine sy 26 40 rfl rfl ?_; try simp only [Act.put, sA, s0, s1]
   refine sy 27 41 rfl rfl ?_; try simp only [Act.put, sA, s0, s1]
   refine wpAnyH_done (by kernel_rfl) ?_ _; clear hHeld HB HR H0 CHK
   have RC9 := Lib.hid (PC.out.trans C8.out)
   go_wp2; go_round
   case rel => exact ⟨k + 1, by omega, by go_num, OT, RC9⟩
   case measure => simp [RowKit.intOf]; omega
  ·
   obtain rfl : k = xs.length := by omega
   have j1 : ¬ (xs.length : Int) < (xs.length : Int) := by omega
   have SL : Hid (ShTo es es.length) := Lib.hid (by rw [← HX.out.1]; exact ST.out)
   clear ST; go_wp2
   go_loopw [45] (fun v45 wr => ∃ (k : Nat), k ≤ xs.length ∧ v45 = .int .i64 k ∧ Hid (∀ e ∈ es.take k, es.any (fun x => aheadP e x) = false) ∧ Hid (Chg [] w wr)) (fun v45 _ => xs.length - (RowKit.intOf v45).toNat)
   case atStart => exact ⟨0, Nat.zero_le _, rfl, Lib.hid (by simp), PC⟩
   case round =>
    obtain ⟨k, hk, rfl, NA, PD⟩ := hrel
    have i0 : (0 : Int) ≤ (k : Int) := by omega
    by_cases hlt : k < xs.length
    ·
     have i1 : (k : Int) < (xs.length : Int) := by omega
     have i3 : IntKind.i64.wrap ((k : Int) + 1) = (k : Int) + 1 := IntWalk.i64_in _ (by have := HN.out; omega)
     obtain ⟨g3, o3, eA, _⟩ := HA.out.line (by omega)
     subst eA
     obtain ⟨x, e, ex, ee, rx⟩ := HX.out.at_ hlt
     obtain ⟨z0, z1, z2, z3, z4, z5, z6⟩ := evCells (HA.out.chg PD.out (by simp)) ex
     have EE := Lib.hid ee
     have RX1 := Lib.hid rx
     have ES1 := Lib.hid (HS.out e (List.mem_of_getElem? ee))
     clear ex ee rx
     obtain ⟨w5, hw5, c5, b5⟩ := news1 wr (.cells #[.int .i64 x.n, .int .i64 x.s, .string x.p, .int .i64 x.k, .int .i64 x.m, .slice x.A x.l x.c, .slice x.B x.bl x.bc] 30)
     have W5 := Lib.hid hw5
     replace PD := Lib.hid (PD.out.trans c5)
     have y0 := cell_of b5 0
     have y1 := cell_of b5 1
     have y2 := cell_of b5 2
     have y3 := cell_of b5 3
     have y4 := cell_of b5 4
     have y5 := cell_of b5 5
     have y6 := cell_of b5 6
     simp only [List.getElem?_toArray, List.getElem?_cons_succ, List.getElem?_cons_zero] at y0 y1 y2 y3 y4 y5 y6
     clear hw5 c5 b5
     go_upto_region 10 with fail
     rw [← W5.out]
     generalize wr.heap.size = g6 at *
     clear W5 z0 z1 z2 z3 z4 z5 z6
     have CA := Lib.hid (shahead_any w5 (some ⟨g3, o3, none⟩) c xs es x e (HA.out.chg PD.out (by simp)) (HX.out.chg PD.out) HN.out (RX1.out.chg PD.out) HS.out ES1.out)
     go_wp2_with fail; clear y0 y1 y2 y3 y4 y5 y6
     refine CA.out.mono ?_
     rintro r w7 ⟨rfl, hc⟩
     replace PD := Lib.hid (PD.out.trans hc)
     clear hc CA
     rcases ha : es.any (fun x => aheadP e x) with _ | _
     ·
      have NA1 : Hid (∀ f ∈ es.take (k + 1), es.any (fun x => aheadP f x) = false) := Lib.hid (fun f hf => by
       rw [List.take_add_one, EE.out] at hf
       rcases List.mem_append.1 hf with q | q
       ·
        exact NA.out f q
       ·
        simp at q; subst q; exact ha)
      clear ha NA; go_wp2; go_round
      case rel => exact ⟨k + 1, by omega, by go_num, NA1, PD⟩
      case measure => simp [RowKit.intOf]; omega
     ·
      have NO : Hid (shE es = 2) := Lib.hid (sh_no_ahead EE.out ha)
      clear ha; go_wp2; go_ret
      rw [NO.out]
      exact ⟨rfl, PD.out⟩
    ·
     obtain rfl : k = xs.length := by omega
     have i1 : ¬ (xs.length : Int) < (xs.length : Int) := by omega
     have OK : Hid (shE es = 0) := Lib.hid (sh_done SL.out (by
      have := NA.out
      rw [HX.out.1, List.take_length] at this
      exact this))
     clear NA; go_wp2; go_ret
     rw [OK.out]
     exact ⟨rfl, PD.out⟩
end
section
open Go.RowKit Go.Lib


set_option maxRecDepth 100000 in
set_option maxHeartbeats 2000000 in
theorem shfind1_gr (w : World) (x : EvT) (n s : Int) :
  Calls Tryz.prog 217 #[.agg #[.int .i64 x.n, .int .i64 x.s, .string x.p, .int .i64 x.k, .int .i64 x.m, .slice x.A x.l x.c, .slice x.B x.bl x.bc], .agg #[.int .i64 n, .int .i64 s]] w fun e w' => e = .returned (.int .i64 (cmpD x.n x.s n s)) ∧ Gr w w' := by
 obtain ⟨w0, hw0, c0, b0, b1⟩ := gr2 w (.cells #[.int .i64 x.n, .int .i64 x.s, .string x.p, .int .i64 x.k, .int .i64 x.m, .slice x.A x.l x.c, .slice x.B x.bl x.bc] 30) (.cells #[.int .i64 n, .int .i64 s] 24)
 have W0 := Lib.hid hw0
 have G := Lib.hid c0
 have k0 := cell_of b0 0
 have k1 := cell_of b0 1
 have k2 := cell_of b0 2
 have k3 := cell_of b0 3
 have k4 := cell_of b0 4
 have k5 := cell_of b0 5
 have k6 := cell_of b0 6
 simp only [List.getElem?_toArray, List.getElem?_cons_succ, List.getElem?_cons_zero] at k0 k1 k2 k3 k4 k5 k6
 have d0 := cell_of b1 0
 have d1 := cell_of b1 1
 simp only [List.getElem?_toArray, List.getElem?_cons_succ, List.getElem?_cons_zero] at d0 d1
 clear hw0 c0 b0 b1
 go_enter Tryz.func217, Tryz.ntmps217
 go_upto_region 1 with fail
 rw [← W0.out]
 generalize w.heap.size + 1 = s1 at *
 generalize w.heap.size = s0 at *
 go_wp2_with fail
 refine (orderof_gr _ _ _ _ _).mono ?_
 rintro e w1 ⟨rfl, c1⟩
 replace G := Lib.hid (G.out.trans c1)
 clear c1 k0 k1 k2 k3 k4 k5 k6 d0 d1; go_wp2; go_ret
 exact ⟨rfl, G.out⟩

theorem shfind1_e (w : World) (x : EvT) (n s : Int) : Calls Tryz.prog 217 #[.agg #[.int .i64 x.n, .int .i64 x.s, .string x.p, .int .i64 x.k, .int .i64 x.m, .slice x.A x.l x.c, .slice x.B x.bl x.bc], .agg #[.int .i64 n, .int .i64 s]] w fun e w' => e = .returned (.int .i64 (cmpEd x n s)) ∧ Chg [] w w' := (shfind1_gr w x n s).mono (fun _ _ h => ⟨h.1, h.2.1⟩)

set_option maxRecDepth 100000 in
set_option maxHeartbeats 8000000 in
theorem shbin_any (w : World) (A : Option Addr) (c : Nat) (xs : List EvT) (n s : Int) (h : RdK evTy w A xs.length xs) (hn : UpE xs) (hl : xs.length ≤ 100000) :
  Calls Tryz.prog 154 #[.slice A xs.length c, .agg #[.int .i64 n, .int .i64 s], .func (.func 217) #[] #[]] w fun e w' => ∃ i : Nat, i ≤ xs.length ∧ LoE xs n s i ∧ HiE xs n s i ∧ e = .returned (.tuple #[.int .i64 (i : Int), .bool (inE xs n s)]) ∧ Chg [] w w' := by
 have HX := Lib.hid h
 have HNM := Lib.hid hn
 have HL := Lib.hid hl
 clear h hn hl
 obtain ⟨w1, hw1, c1, b1⟩ := news1 w (.cells #[.int .i64 n, .int .i64 s] 24)
 have W1 := Lib.hid hw1
 have C1 := Lib.hid c1
 have B1 := Lib.hid b1
 clear hw1 c1 b1
 go_enter Tryz.func154, Tryz.ntmps154
 go_upto_region 2 with fail
 rw [← W1.out]
 generalize w.heap.size = g0 at *
 clear W1; go_wp2
 go_loopw [9, 10] (fun v9 v10 wr => ∃ (i j : Nat), i ≤ j ∧ j ≤ xs.length ∧ v9 = .int .i64 (i : Int) ∧ v10 = .int .i64 (j : Int) ∧ Hid (LoE xs n s i ∧ HiE xs n s j) ∧ Hid (Chg [] w1 wr)) (fun v9 v10 _ => (RowKit.intOf v10).toNat - (RowKit.intOf v9).toNat)
 case atStart => exact ⟨0, xs.length, Nat.zero_le _, Nat.le_refl _, rfl, rfl, Lib.hid ⟨fun p x _ h => absurd h (by omega), fun p x hx h => absurd ((List.getElem?_eq_some_iff.1 hx).1) (by omega)⟩, Chg.refl _ _⟩
 case round =>
  obtain ⟨i, j, hij, hj, rfl, rfl, HI, HC⟩ := hrel
  have i0 : (0 : Int) ≤ (i : Int) := by omega
  have hl := HL.out
  have i1 : IntKind.i64.wrap ((i : Int) + (j : Int)) = ((i + j : Nat) : Int) := by rw [IntWalk.i64_in _ (by omega)]; omega
  by_cases hlt : i < j
  ·
   have i2 : (i : Int) < (j : Int) := by omega
   go_upto_region 5 with fail
   obtain ⟨k, hk⟩ : ∃ k : Nat, k = (i + j) / 2 := ⟨_, rfl⟩
   have e1 : ((i : Int) + (j : Int)) / 2 = (k : Int) := by omega
   rw [e1]
   have hk1 : i ≤ k ∧ k < j := by omega
   clear hk e1 i1 i2
   obtain ⟨x, hx⟩ : ∃ x, xs[k]? = some x := ⟨_, List.getElem?_eq_getElem (by omega)⟩
   have R4 := (HX.out.chg C1.out (by simp)).chg HC.out (by simp)
   obtain ⟨g, o, eA, _⟩ := R4.line (by omega)
   subst eA
   obtain ⟨q0, q1, q2, q3, q4, q5, q6⟩ := evCells R4 hx
   have b4 := HC.out.at_ B1.out (by simp)
   have d0 := cell_of b4 0
   have d1 := cell_of b4 1
   simp only [List.getElem?_toArray, List.getElem?_cons_succ, List.getElem?_cons_zero] at d0 d1
   have k0 : (0 : Int) ≤ (k : Int) := by omega
   have k1 : (k : Int) < (xs.length : Int) := by omega
   have HX5 := Lib.hid hx
   clear R4 b4 hx
   refine wp_region_held_drew (S := fun w' => w'.cell? ⟨g, o + k * 7, none⟩ = some (.int .i64 x.n) ∧ w'.cell? ⟨g, o + k * 7 + 1, none⟩ = some (.int .i64 x.s) ∧ w'.cell? ⟨g, o + k * 7 + 2, none⟩ = some (.string x.p) ∧ w'.cell? ⟨g, o + k * 7 + 3, none⟩ = some (.int .i64 x.k) ∧ w'.cell? ⟨g, o + k * 7 + 4, none⟩ = some (.int .i64 x.m) ∧ w'.cell? ⟨g, o + k * 7 + 5, none⟩ = some (.slice x.A x.l x.c) ∧ w'.cell? ⟨g, o + k * 7 + 6, none⟩ = some (.slice x.B x.bl x.bc) ∧ w'.cell? ⟨g0, 0, none⟩ = some (.int .i64 n) ∧ w'.cell? ⟨g0, 1, none⟩ = some (.int .i64 s)) (by kernel_rfl) ⟨q0, q1, q2, q3, q4, q5, q6, d0, d1⟩ (fun hHeld => ?_)
   have CD := Lib.hid (Chg.refl [] wr).drew
   have HH := Lib.hid (fun (w' : World) (hc : Chg [] wr.drew w') => (⟨(CD.out.trans hc).cell q0 (by simp), (CD.out.trans hc).cell q1 (by simp), (CD.out.trans hc).cell q2 (by simp), (CD.out.trans hc).cell q3 (by simp), (CD.out.trans hc).cell q4 (by simp), (CD.out.trans hc).cell q5 (by simp), (CD.out.trans hc).cell q6 (by simp), (CD.out.trans hc).cell d0 (by simp), (CD.out.trans hc).cell d1 (by simp)⟩ : w'.cell? ⟨g, o + k * 7, none⟩ = some (.int .i64 x.n) ∧ w'.cell? ⟨g, o + k * 7 + 1, none⟩ = some (.int .i64 x.s) ∧ w'.cell? ⟨g, o + k * 7 + 2, none⟩ = some (.string x.p) ∧ w'.cell? ⟨g, o + k * 7 + 3, none⟩ = some (.int .i64 x.k) ∧ w'.cell? ⟨g, o + k * 7 + 4, none⟩ = some (.int .i64 x.m) ∧ w'.cell? ⟨g, o + k * 7 + 5, none⟩ = some (.slice x.A x.l x.c) ∧ w'.cell? ⟨g, o + k * 7 + 6, none⟩ = some (.slice x.B x.bl x.bc) ∧ w'.cell? ⟨g0, 0, none⟩ = some (.int .i64 n) ∧ w'.cell? ⟨g0, 1, none⟩ = some (.int .i64 s)))
   clear q0 q1 q2 q3 q4 q5 q6 d0 d1
   generalize wr.drew = wd at *
   refine sy 0 24 rfl rfl ?_; try simp only [Act.put, sA, s0, s1]
   refine sy 1 25 rfl rfl ?_; try simp only [Act.put, sA, s0, s1]
   refine sy 2 26 rfl rfl ?_; try simp only [Act.put, sA, s0, s1]
   refine sy 3 27 rfl rfl ?_; try simp only [Act.put, sA, s0, s1]
   refine sy 4 28 rfl rfl ?_ (hy := by (intro w hSw; (try dsimp only at hSw); obtain ⟨q0, q1, q2, q3, q4, q5, q6, q7, q8⟩ := hSw; go_simp; try with_reducible rfl))
   try simp only [Act.put, sA, s0, s1]
   refine sy 5 29 rfl rfl ?_ (hy := by (intro w hSw; (try dsimp only at hSw); obtain ⟨q0, q1, q2, q3, q4, q5, q6, q7, q8⟩ := hSw; go_simp; try with_reducible rfl))
   try simp only [Act.put, sA, s0, s1]
   refine wpAnyH_ready (rs := [6]) (by kernel_rfl) (by simp) ?_; refine AllReadyH.cons rfl (fun K hK => ?_) AllReadyH.nil; replace hK := Lib.hid hK; go_simp
   refine (shfind1_e wd x n s).mono ?_
   rintro r w6 ⟨rfl, h6⟩
   have C6 := Lib.hid h6
   clear h6 hHeld
   refine hK.out _ _ (HH.out w6 C6.out) (fun hHeld => ?_)
   clear hK K; try simp only [Act.put, sA, s0, s1]
   refine sy 7 31 rfl rfl ?_; try simp only [Act.put, sA, s0, s1]
   refine wpAnyH_done (by kernel_rfl) ?_ _; clear hHeld HH
   have CE := Lib.hid (HC.out.trans (CD.out.trans C6.out))
   by_cases hneg : cmpEd x n s < 0
   ·
    have LO := Lib.hid (loE_next HNM.out HX5.out hneg)
    have dn1 : decide (cmpEd x n s < 0) = true := decide_eq_true hneg
    have w1' : IntKind.i64.wrap ((k : Int) + 1) = (k : Int) + 1 := IntWalk.i64_in _ (by omega)
    go_wp2; go_round
    case rel => exact ⟨k + 1, j, by omega, hj, by go_num, rfl, Lib.hid ⟨LO.out, HI.out.2⟩, CE.out⟩
    case measure => simp [RowKit.intOf]; omega
   ·
    have HIN := Lib.hid (hiE_next HNM.out HX5.out hneg)
    have dn1 : decide (cmpEd x n s < 0) = false := decide_eq_false hneg
    go_wp2; go_round
    case rel => exact ⟨i, k, by omega, by omega, rfl, rfl, Lib.hid ⟨HI.out.1, HIN.out⟩, CE.out⟩
    case measure => simp [RowKit.intOf]; omega
  ·
   obtain rfl : i = j := by omega
   have i2 : ¬ (i : Int) < (i : Int) := by omega
   by_cases hin : i < xs.length
   ·
    have k1 : (i : Int) < (xs.length : Int) := by omega
    have k2 : decide ((i : Int) < (xs.length : Int)) = true := by simp; omega
    have k3 : decide (i < xs.length) = true := by simp; omega
    obtain ⟨x, hx⟩ : ∃ x, xs[i]? = some x := ⟨_, List.getElem?_eq_getElem hin⟩
    have R4 := (HX.out.chg C1.out (by simp)).chg HC.out (by simp)
    obtain ⟨g, o, eA, _⟩ := R4.line (by omega)
    subst eA
    obtain ⟨q0, q1, q2, q3, q4, q5, q6⟩ := evCells R4 hx
    have b4 := HC.out.at_ B1.out (by simp)
    have d0 := cell_of b4 0
    have d1 := cell_of b4 1
    simp only [List.getElem?_toArray, List.getElem?_cons_succ, List.getElem?_cons_zero] at d0 d1
    have ANS : Hid (inE xs n s = decide (cmpEd x n s = 0)) := Lib.hid (by
     by_cases hz : cmpEd x n s = 0
     ·
      rw [inE_yes hx hz, decide_eq_true hz]
     ·
      rw [inE_no HNM.out HI.out.1 HI.out.2 (fun y hy => by rw [hx] at hy; cases hy; exact hz), decide_eq_false hz])
    clear R4 b4 hx
    go_upto_region 8 with fail
    refine wp_region_held_drew (S := fun w' => w'.cell? ⟨g, o + i * 7, none⟩ = some (.int .i64 x.n) ∧ w'.cell? ⟨g, o + i * 7 + 1, none⟩ = some (.int .i64 x.s) ∧ w'.cell? ⟨g, o + i * 7 + 2, none⟩ = some (.string x.p) ∧ w'.cell? ⟨g, o + i * 7 + 3, none⟩ = some (.int .i64 x.k) ∧ w'.cell? ⟨g, o + i * 7 + 4, none⟩ = some (.int .i64 x.m) ∧ w'.cell? ⟨g, o + i * 7 + 5, none⟩ = some (.slice x.A x.l x.c) ∧ w'.cell? ⟨g, o + i * 7 + 6, none⟩ = some (.slice x.B x.bl x.bc) ∧ w'.cell? ⟨g0, 0, none⟩ = some (.int .i64 n) ∧ w'.cell? ⟨g0, 1, none⟩ = some (.int .i64 s)) (by kernel_rfl) ⟨q0, q1, q2, q3, q4, q5, q6, d0, d1⟩ (fun hHeld => ?_)
    have CD := Lib.hid (Chg.refl [] wr).drew
    have HH := Lib.hid (fun (w' : World) (hc : Chg [] wr.drew w') => (⟨(CD.out.trans hc).cell q0 (by simp), (CD.out.trans hc).cell q1 (by simp), (CD.out.trans hc).cell q2 (by simp), (CD.out.trans hc).cell q3 (by simp), (CD.out.trans hc).cell q4 (by simp), (CD.out.trans hc).cell q5 (by simp), (CD.out.trans hc).cell q6 (by simp), (CD.out.trans hc).cell d0 (by simp), (CD.out.trans hc).cell d1 (by simp)⟩ : w'.cell? ⟨g, o + i * 7, none⟩ = some (.int .i64 x.n) ∧ w'.cell? ⟨g, o + i * 7 + 1, none⟩ = some (.int .i64 x.s) ∧ w'.cell? ⟨g, o + i * 7 + 2, none⟩ = some (.string x.p) ∧ w'.cell? ⟨g, o + i * 7 + 3, none⟩ = some (.int .i64 x.k) ∧ w'.cell? ⟨g, o + i * 7 + 4, none⟩ = some (.int .i64 x.m) ∧ w'.cell? ⟨g, o + i * 7 + 5, none⟩ = some (.slice x.A x.l x.c) ∧ w'.cell? ⟨g, o + i * 7 + 6, none⟩ = some (.slice x.B x.bl x.bc) ∧ w'.cell? ⟨g0, 0, none⟩ = some (.int .i64 n) ∧ w'.cell? ⟨g0, 1, none⟩ = some (.int .i64 s)))
    clear q0 q1 q2 q3 q4 q5 q6 d0 d1 i2
    generalize wr.drew = wd at *
    refine sy 0 35 rfl rfl ?_; try simp only [Act.put, sA, s0, s1]
    refine sy 1 36 rfl rfl ?_; try simp only [Act.put, sA, s0, s1]
    refine sy 2 37 rfl rfl ?_; try simp only [Act.put, sA, s0, s1]
    refine sy 3 38 rfl rfl ?_; try simp only [Act.put, sA, s0, s1]
    refine sy 4 39 rfl rfl ?_; try simp only [Act.put, sA, s0, s1]
    refine sy 5 40 rfl rfl ?_; try simp only [Act.put, sA, s0, s1]
    refine sy 6 41 rfl rfl ?_; try simp only [Act.put, sA, s0, s1]
    refine sy 7 42 rfl rfl ?_; try simp only [Act.put, sA, s0, s1]
    refine sy 8 43 rfl rfl ?_; try simp only [Act.put, sA, s0, s1]
    refine sy 9 44 rfl rfl ?_ (hy := by (intro w hSw; (try dsimp only at hSw); obtain ⟨q0, q1, q2, q3, q4, q5, q6, q7, q8⟩ := hSw; go_simp; try with_reducible rfl))
    try simp only [Act.put, sA, s0, s1]
    refine sy 10 45 rfl rfl ?_ (hy := by (intro w hSw; (try dsimp only at hSw); obtain ⟨q0, q1, q2, q3, q4, q5, q6, q7, q8⟩ := hSw; go_simp; try with_reducible rfl))
    try simp only [Act.put, sA, s0, s1]
    refine wpAnyH_ready (rs := [11]) (by kernel_rfl) (by simp) ?_; refine AllReadyH.cons rfl (fun K hK => ?_) AllReadyH.nil; replace hK := Lib.hid hK; go_simp
    refine (shfind1_e wd x n s).mono ?_
    rintro r w6 ⟨rfl, h6⟩
    have C6 := Lib.hid h6
    clear h6 hHeld
    refine hK.out _ _ (HH.out w6 C6.out) (fun hHeld => ?_)
    clear hK K; try simp only [Act.put, sA, s0, s1]
    refine sy 12 47 rfl rfl ?_; try simp only [Act.put, sA, s0, s1]
    refine sy 13 48 rfl rfl ?_; try simp only [Act.put, sA, s0, s1]
    refine sy 14 6 rfl rfl ?_; try simp only [Act.put, sA, s0, s1]
    refine sy 15 7 rfl rfl ?_; try simp only [Act.put, sA, s0, s1]
    refine wpAnyH_done (by kernel_rfl) ?_ _; clear hHeld HH
    have CE := Lib.hid (C1.out.trans (HC.out.trans (CD.out.trans C6.out)))
    have LH := HI
    by_cases hz : cmpEd x n s = 0
    ·
     have AN : inE xs n s = true := by rw [ANS.out, decide_eq_true hz]
     have dz : ((cmpEd x n s == 0) : Bool) = true := by simpa using hz
     clear ANS hz; go_wp2; go_ret2
     (first | exact ⟨i, by omega, LH.out.1, LH.out.2, by rw [AN]; first | rfl | (show Ending.returned (.tuple #[.int .i64 (i : Int), .bool (cmpEd x n s == 0)]) = _; rw [dz]), CE.out⟩ | exact ⟨i, by omega, LH.out.1, LH.out.2, by first | rfl | (rw [AN]; rfl), CE.out⟩ | exact ⟨i, by omega, LH.out.1, LH.out.2, by show Ending.returned (.tuple #[.int .i64 (i : Int), .bool (cmpEd x n s == 0)]) = _; rw [dz], CE.out⟩)
    ·
     have AN : inE xs n s = false := by rw [ANS.out, decide_eq_false hz]
     have dz : ((cmpEd x n s == 0) : Bool) = false := by simpa using hz
     clear ANS hz; go_wp2; go_ret2
     (first | exact ⟨i, by omega, LH.out.1, LH.out.2, by rw [AN]; first | rfl | (show Ending.returned (.tuple #[.int .i64 (i : Int), .bool (cmpEd x n s == 0)]) = _; rw [dz]), CE.out⟩ | exact ⟨i, by omega, LH.out.1, LH.out.2, by first | rfl | (rw [AN]; rfl), CE.out⟩ | exact ⟨i, by omega, LH.out.1, LH.out.2, by show Ending.returned (.tuple #[.int .i64 (i : Int), .bool (cmpEd x n s == 0)]) = _; rw [dz], CE.out⟩)
   ·
    have k1 : ¬ (i : Int) < (xs.length : Int) := by omega
    have k2 : decide ((i : Int) < (xs.length : Int)) = false := by simp; omega
    have k3 : decide (i < xs.length) = false := by simp; omega
    have ANS : Hid (inE xs n s = false) := Lib.hid (inE_no HNM.out HI.out.1 HI.out.2 (fun y hy => absurd ((List.getElem?_eq_some_iff.1 hy).1) hin))
    go_upto_region 8 with fail
    refine wp_region_held_drew (S := fun _ => True) (by kernel_rfl) trivial (fun hHeld => ?_)
    have CD := Lib.hid (Chg.refl [] wr).drew
    generalize wr.drew = wd at *
    clear i2
    refine sy 0 35 rfl rfl ?_ (hS := trivial)
    try simp only [Act.put, sA, s0, s1]
    refine sy 1 36 rfl rfl ?_ (hS := trivial)
    try simp only [Act.put, sA, s0, s1]
    refine sy 2 37 rfl rfl ?_ (hS := trivial)
    try simp only [Act.put, sA, s0, s1]
    refine sy 3 38 rfl rfl ?_ (hS := trivial)
    try simp only [Act.put, sA, s0, s1]
    refine sy 4 39 rfl rfl ?_ (hS := trivial)
    try simp only [Act.put, sA, s0, s1]
    refine sn 5 40 rfl rfl ?_ (hS := trivial)
    try simp only [Act.put, sA, s0, s1]
    refine sn 6 41 rfl rfl ?_ (hS := trivial)
    try simp only [Act.put, sA, s0, s1]
    refine sn 7 42 rfl rfl ?_ (hS := trivial)
    try simp only [Act.put, sA, s0, s1]
    refine sn 8 43 rfl rfl ?_ (hS := trivial)
    try simp only [Act.put, sA, s0, s1]
    refine sn 9 44 rfl rfl ?_ (hS := trivial)
    try simp only [Act.put, sA, s0, s1]
    refine sn 10 45 rfl rfl ?_ (hS := trivial)
    try simp only [Act.put, sA, s0, s1]
    refine sn 11 46 rfl rfl ?_ (hS := trivial)
    try simp only [Act.put, sA, s0, s1]
    refine sn 12 47 rfl rfl ?_ (hS := trivial)
    try simp only [Act.put, sA, s0, s1]
    refine sy 13 48 rfl rfl ?_ (hS := trivial)
    try simp only [Act.put, sA, s0, s1]
    refine sy 14 6 rfl rfl ?_ (hS := trivial)
    try simp only [Act.put, sA, s0, s1]
    refine sy 15 7 rfl rfl ?_ (hS := trivial)
    try simp only [Act.put, sA, s0, s1]
    refine wpAnyH_done (by kernel_rfl) ?_ _; clear hHeld
    have CE := Lib.hid (C1.out.trans (HC.out.trans CD.out))
    have AN := ANS.out
    have LH := HI
    go_wp2; go_ret2
    (first | exact ⟨i, by omega, LH.out.1, LH.out.2, by rw [AN]; first | rfl | (show Ending.returned (.tuple #[.int .i64 (i : Int), .bool (cmpEd x n s == 0)]) = _; rw [dz]), CE.out⟩ | exact ⟨i, by omega, LH.out.1, LH.out.2, by first | rfl | (rw [AN]; rfl), CE.out⟩ | exact ⟨i, by omega, LH.out.1, LH.out.2, by show Ending.returned (.tuple #[.int .i64 (i : Int), .bool (cmpEd x n s == 0)]) = _; rw [dz], CE.out⟩)

set_option maxRecDepth 100000 in
set_option maxHeartbeats 4000000 in
theorem shfind_any (w : World) (A : Option Addr) (c : Nat) (xs : List EvT) (n s : Int) (h : RdK evTy w A xs.length xs) (hn : UpE xs) (hl : xs.length ≤ 100000) :
  Calls Tryz.prog 168 #[.slice A xs.length c, .agg #[.int .i64 n, .int .i64 s]] w fun e w' => ∃ i : Nat, i ≤ xs.length ∧ LoE xs n s i ∧ HiE xs n s i ∧ e = .returned (.tuple #[.int .i64 (i : Int), .bool (inE xs n s)]) ∧ Chg [] w w' := by
 obtain ⟨w1, hw1, c1, b1⟩ := news1 w (.cells #[.int .i64 n, .int .i64 s] 24)
 have W1 := Lib.hid hw1
 have C1 := Lib.hid c1
 have CC := Lib.hid (shbin_any w1 A c xs n s (h.chg c1 (by simp)) hn hl)
 have d0 := cell_of b1 0
 have d1 := cell_of b1 1
 simp only [List.getElem?_toArray, List.getElem?_cons_succ, List.getElem?_cons_zero] at d0 d1
 clear hw1 c1 b1 h hn hl
 go_enter Tryz.func168, Tryz.ntmps168
 go_upto_region 1 with fail
 rw [← W1.out]
 generalize w.heap.size = g1 at *
 clear W1; go_wp2_with fail; clear d0 d1
 refine CC.out.mono ?_
 rintro r w2 ⟨i, hi, lo, hh, rfl, hc⟩
 have P := Lib.hid (And.intro hi (And.intro lo hh))
 replace C1 := Lib.hid (C1.out.trans hc)
 clear hc CC hi lo hh; go_wp2
 first | go_ret2 | go_ret
 exact ⟨i, P.out.1, P.out.2.1, P.out.2.2, rfl, C1.out⟩
end
section
open Go.RowKit Go.Lib


set_option maxRecDepth 100000 in
set_option maxHeartbeats 4000000 in
theorem shwithout_any (w : World) (A : Option Addr) (c : Nat) (xs : List EvT) (es : List EvP) (y : EvT) (f : EvP) (h : RdK evTy w A xs.length xs) (hx : EvsR w xs es) (hn : xs.length ≤ 100000) (hy : EvR w y f) (hs : ∀ e ∈ es, EvSm e) (ht : EvSm f) :
  Calls Tryz.prog 169 #[.slice A xs.length c, .agg #[.int .i64 y.n, .int .i64 y.s, .string y.p, .int .i64 y.k, .int .i64 y.m, .slice y.A y.l y.c, .slice y.B y.bl y.bc], .func (.func 40) #[] #[]] w fun r w' => ∃ (A' : Option Addr) (c' : Nat) (ys : List EvT), r = .returned (.slice A' ys.length c') ∧ ys.length ≤ xs.length ∧ EvsR w ys (es.filter (fun e => !aheadP e f)) ∧ OwnK evTy w' A' c' ys ∧ (∀ a, A' = some a → w.heap.size ≤ a.block) ∧ Chg [] w w' := by
 obtain ⟨w2, hw2, c2, b0, b1⟩ := news2 w (.cells #[.int .i64 y.n, .int .i64 y.s, .string y.p, .int .i64 y.k, .int .i64 y.m, .slice y.A y.l y.c, .slice y.B y.bl y.bc] 30) (.cells #[.func (.func 40) #[] #[]] 42)
 have W2 := Lib.hid hw2
 have C2 := Lib.hid c2
 have HC := Lib.hid (cloneEv_any w2 A xs.length c xs (h.chg c2 (by simp)) (by omega))
 have DEL := Lib.hid (fun (w3 : World) (A3 : Option Addr) (c3 : Nat) (h0 : Chg [] w2 w3) (ho : OwnK evTy w3 A3 c3 xs) (hA : ∀ a, A3 = some a → w2.heap.size ≤ a.block) => shdel_any w w2 w3 A3 c3 xs es (w.heap.size + 1) _ w.heap.size y f c2 h0 ho hA hx hn b1 b0 (hy.chg c2) hs ht)
 have HX := Lib.hid hx
 have SZ := Lib.hid c2.size
 clear hw2 c2 b0 b1 h hx hn hy hs ht
 go_enter Tryz.func169, Tryz.ntmps169
 go_upto_region 1 with fail
 rw [← W2.out]
 obtain ⟨g0, hg0⟩ : ∃ g, w.heap.size = g := ⟨_, rfl⟩
 clear W2; go_wp2_with fail
 refine HC.out.mono ?_
 rintro r w3 ⟨A3, c3, rfl, ho, hA, hc⟩
 have D := Lib.hid (DEL.out w3 A3 c3 hc ho hA)
 have NA := Lib.hid hA
 clear ho hA hc HC DEL hg0; go_wp2_with fail
 refine D.out.mono ?_
 rintro r w4 ⟨ys, rfl, hl, he, ho, hc⟩
 have P := Lib.hid (And.intro hl (And.intro he (And.intro ho hc)))
 clear D hl he ho hc; go_wp2; go_ret
 exact ⟨A3, c3, ys, rfl, P.out.1, P.out.2.1, P.out.2.2.1, fun a ha => Nat.le_trans SZ.out (NA.out a ha), C2.out.trans P.out.2.2.2⟩
end
section
open Go.RowKit Go.Lib


theorem EsF.low {w : World} {lo lo' hi : Nat} {A : Option Addr} {c : Nat} {ys : List EvT} {es : List EvP} (h : EsF w lo hi A c ys es) (hh : lo' ≤ lo) : EsF w lo' hi A c ys es :=
 ⟨h.row, fun a ha => ⟨Nat.le_trans hh (h.rowAt a ha).1, (h.rowAt a ha).2⟩, h.all.low hh⟩
set_option maxRecDepth 100000 in
set_option maxHeartbeats 16000000 in
theorem shput_any (w : World) (A : Option Addr) (c : Nat) (xs : List EvT) (es : List EvP) (y : EvT) (f : EvP) (h : RdK evTy w A xs.length xs) (hx : EvsR w xs es) (hn : xs.length ≤ 1000) (hs : ∀ e ∈ es, EvSm e ∧ e.q.length ≤ 100000) (hy : EvR w y f) (ht : EvSm f ∧ f.q.length ≤ 100000) :
  Calls Tryz.prog 104 #[.slice A xs.length c, .agg #[.int .i64 y.n, .int .i64 y.s, .string y.p, .int .i64 y.k, .int .i64 y.m, .slice y.A y.l y.c, .slice y.B y.bl y.bc]] w fun r w' => ∃ (A' : Option Addr) (c' : Nat) (ys : List EvT), r = .returned (.tuple #[.slice A' ys.length c', .int .i64 (shJoinE es [f]).1]) ∧ EsF w' w.heap.size w'.heap.size A' c' ys (shJoinE es [f]).2 ∧ Chg [] w w' := by

 obtain ⟨w1, hw1, c1, b1⟩ := news1 w (.cells #[.int .i64 y.n, .int .i64 y.s, .string y.p, .int .i64 y.k, .int .i64 y.m, .slice y.A y.l y.c, .slice y.B y.bl y.bc] 30)
 have W1 := Lib.hid hw1
 have C1 := Lib.hid c1
 have B1 := Lib.hid b1
 have HA := Lib.hid (h.chg c1 (by simp))
 have HX := Lib.hid (hx.chg c1)
 have HN := Lib.hid hn
 have HS : Hid (∀ e ∈ es, EvSm e) := Lib.hid (fun e he => (hs e he).1)
 have HQ : Hid (∀ e ∈ es, e.b.length ≤ 140737488351232 ∧ e.q.length ≤ 100000) := Lib.hid (fun e he => ⟨(hs e he).1.2.1, (hs e he).2⟩)
 have HY := Lib.hid (hy.chg c1)
 have HT := Lib.hid ht.1
 have HTQ := Lib.hid ht.2
 have PC := Lib.hid (Chg.refl [] w1)
 have RJ : Hid (∃ R, R = shJoinE es [f]) := Lib.hid ⟨_, rfl⟩
 clear hw1 c1 b1 h hx hn hs hy ht
 go_enter Tryz.func104, Tryz.ntmps104
 go_upto_region 1 with fail
 rw [← W1.out]
 obtain ⟨g1, hg1⟩ : ∃ g, w.heap.size = g := ⟨_, rfl⟩
 have HG := Lib.hid hg1
 rw [hg1] at B1 ⊢
 clear W1 hg1 RJ
 have HB : Hid (∀ w', Chg [] w1 w' → (w'.cell? ⟨g1, 0, none⟩ = some (.int .i64 y.n) ∧ w'.cell? ⟨g1, 1, none⟩ = some (.int .i64 y.s) ∧ w'.cell? ⟨g1, 2, none⟩ = some (.string y.p) ∧ w'.cell? ⟨g1, 3, none⟩ = some (.int .i64 y.k) ∧ w'.cell? ⟨g1, 4, none⟩ = some (.int .i64 y.m) ∧ w'.cell? ⟨g1, 5, none⟩ = some (.slice y.A y.l y.c) ∧ w'.cell? ⟨g1, 6, none⟩ = some (.slice y.B y.bl y.bc))) := Lib.hid (fun w' hc => by
  have b := hc.at_ B1.out (by simp)
  exact ⟨cell_of b 0, cell_of b 1, cell_of b 2, cell_of b 3, cell_of b 4, cell_of b 5, cell_of b 6⟩)
 have SCK : Hid (∀ w', Chg [] w1 w' → Calls Tryz.prog 54 #[.slice A xs.length c] w' fun r w2 => r = .returned (.int .i64 (shE es)) ∧ Chg [] w' w2) := Lib.hid (fun w' hc => shcheck_any w' A c xs es (HA.out.chg hc (by simp)) (HX.out.chg hc) (by have := HN.out; omega) HS.out)
 have ECK : Hid (∀ w', Chg [] w1 w' → Calls Tryz.prog 46 #[.agg #[.int .i64 y.n, .int .i64 y.s, .string y.p, .int .i64 y.k, .int .i64 y.m, .slice y.A y.l y.c, .slice y.B y.bl y.bc]] w' fun r w2 => r = .returned (.int .i64 (chkEv f)) ∧ Chg [] w' w2) := Lib.hid (fun w' hc => evcheck_any w' y f (HY.out.chg hc) HT.out)
 rcases shE_two es with e1 | e1
 rotate_left
 ·
  have NO : Hid (shJoinE es [f] = (2, [])) := Lib.hid (shJoin_noA (fun q => by rw [shE_zero.2 q] at e1; cases e1))
  refine wp_region_held_drew (S := fun w' => Chg [] w1 w') (by kernel_rfl) (Chg.refl [] w1).drew (fun hHeld => ?_)
  refine sy 0 11 rfl rfl ?_; try simp only [Act.put, sA, s0, s1]
  refine wpAnyH_ready (rs := [1]) (by kernel_rfl) (by simp) ?_; refine AllReadyH.cons rfl (fun K hK => ?_) AllReadyH.nil; replace hK := Lib.hid hK; go_simp
  refine (SCK.out _ hHeld).mono ?_
  rintro r w3 ⟨rfl, hc⟩
  rw [e1]
  have C9 := Lib.hid (hHeld.trans hc)
  clear hc hHeld
  refine hK.out _ _ C9.out (fun hHeld => ?_)
  clear hK K; try simp only [Act.put, sA, s0, s1]
  refine sy 2 13 rfl rfl ?_; try simp only [Act.put, sA, s0, s1]
  refine sy 3 14 rfl rfl ?_; try simp only [Act.put, sA, s0, s1]
  refine sn 4 15 rfl rfl ?_; try simp only [Act.put, sA, s0, s1]
  refine sn 5 16 rfl rfl ?_; try simp only [Act.put, sA, s0, s1]
  refine sn 6 17 rfl rfl ?_; try simp only [Act.put, sA, s0, s1]
  refine sy 7 18 rfl rfl ?_; try simp only [Act.put, sA, s0, s1]
  refine sy 8 19 rfl rfl ?_; try simp only [Act.put, sA, s0, s1]
  refine sn 9 20 rfl rfl ?_; try simp only [Act.put, sA, s0, s1]
  refine sn 10 21 rfl rfl ?_; try simp only [Act.put, sA, s0, s1]
  refine sn 11 22 rfl rfl ?_; try simp only [Act.put, sA, s0, s1]
  refine sn 12 23 rfl rfl ?_; try simp only [Act.put, sA, s0, s1]
  refine sn 13 24 rfl rfl ?_; try simp only [Act.put, sA, s0, s1]
  refine sn 14 25 rfl rfl ?_; try simp only [Act.put, sA, s0, s1]
  refine sn 15 26 rfl rfl ?_; try simp only [Act.put, sA, s0, s1]
  refine sn 16 27 rfl rfl ?_; try simp only [Act.put, sA, s0, s1]
  refine sn 17 28 rfl rfl ?_; try simp only [Act.put, sA, s0, s1]
  refine sn 18 29 rfl rfl ?_; try simp only [Act.put, sA, s0, s1]
  refine sn 19 30 rfl rfl ?_; try simp only [Act.put, sA, s0, s1]
  refine sn 20 31 rfl rfl ?_; try simp only [Act.put, sA, s0, s1]
  refine sy 21 32 rfl rfl ?_; try simp only [Act.put, sA, s0, s1]
  refine wpAnyH_done (by kernel_rfl) ?_ _
  have PE := Lib.hid (C1.out.trans C9.out)
  clear hHeld HB SCK ECK; go_wp2; go_ret2
  rw [NO.out]
  exact ⟨none, 0, [], rfl, EsF.nil _ _ _, PE.out⟩
 have SOK : Hid (ShOk es) := Lib.hid (shE_zero.1 e1)
 rcases chkEv_two f with e2 | e2
 rotate_left
 ·
  have NO : Hid (shJoinE es [f] = (2, [])) := Lib.hid (shJoin_no1 (by omega))
  refine wp_region_held_drew (S := fun w' => Chg [] w1 w') (by kernel_rfl) (Chg.refl [] w1).drew (fun hHeld => ?_)
  refine sy 0 11 rfl rfl ?_; try simp only [Act.put, sA, s0, s1]
  refine wpAnyH_ready (rs := [1]) (by kernel_rfl) (by simp) ?_; refine AllReadyH.cons rfl (fun K hK => ?_) AllReadyH.nil; replace hK := Lib.hid hK; go_simp
  refine (SCK.out _ hHeld).mono ?_
  rintro r w3 ⟨rfl, hc⟩
  rw [e1]
  have C9 := Lib.hid (hHeld.trans hc)
  clear hc hHeld
  refine hK.out _ _ C9.out (fun hHeld => ?_)
  clear hK K; try simp only [Act.put, sA, s0, s1]
  refine sy 2 13 rfl rfl ?_; try simp only [Act.put, sA, s0, s1]
  refine sy 3 14 rfl rfl ?_; try simp only [Act.put, sA, s0, s1]
  refine sy 4 15 rfl rfl ?_ (hy := by (intro w hSw; (try dsimp only at hSw); have hq := HB.out _ hSw; obtain ⟨q0, q1, q2, q3, q4, q5, q6⟩ := hq; go_simp; try with_reducible rfl))
  try simp only [Act.put, sA, s0, s1]
  refine wpAnyH_ready (rs := [5]) (by kernel_rfl) (by simp) ?_; refine AllReadyH.cons rfl (fun K hK => ?_) AllReadyH.nil; replace hK := Lib.hid hK; go_simp
  refine (ECK.out _ hHeld).mono ?_
  rintro r w4 ⟨rfl, hc⟩
  rw [e2]
  have C9 := Lib.hid (hHeld.trans hc)
  clear hc hHeld
  refine hK.out _ _ C9.out (fun hHeld => ?_)
  clear hK K; try simp only [Act.put, sA, s0, s1]
  refine sy 6 17 rfl rfl ?_; try simp only [Act.put, sA, s0, s1]
  refine sy 7 18 rfl rfl ?_; try simp only [Act.put, sA, s0, s1]
  refine sy 8 19 rfl rfl ?_; try simp only [Act.put, sA, s0, s1]
  refine sn 9 20 rfl rfl ?_; try simp only [Act.put, sA, s0, s1]
  refine sn 10 21 rfl rfl ?_; try simp only [Act.put, sA, s0, s1]
  refine sn 11 22 rfl rfl ?_; try simp only [Act.put, sA, s0, s1]
  refine sn 12 23 rfl rfl ?_; try simp only [Act.put, sA, s0, s1]
  refine sn 13 24 rfl rfl ?_; try simp only [Act.put, sA, s0, s1]
  refine sn 14 25 rfl rfl ?_; try simp only [Act.put, sA, s0, s1]
  refine sn 15 26 rfl rfl ?_; try simp only [Act.put, sA, s0, s1]
  refine sn 16 27 rfl rfl ?_; try simp only [Act.put, sA, s0, s1]
  refine sn 17 28 rfl rfl ?_; try simp only [Act.put, sA, s0, s1]
  refine sn 18 29 rfl rfl ?_; try simp only [Act.put, sA, s0, s1]
  refine sn 19 30 rfl rfl ?_; try simp only [Act.put, sA, s0, s1]
  refine sn 20 31 rfl rfl ?_; try simp only [Act.put, sA, s0, s1]
  refine sy 21 32 rfl rfl ?_; try simp only [Act.put, sA, s0, s1]
  refine wpAnyH_done (by kernel_rfl) ?_ _
  have PE := Lib.hid (C1.out.trans C9.out)
  clear hHeld HB SCK ECK; go_wp2; go_ret2
  rw [NO.out]
  exact ⟨none, 0, [], rfl, EsF.nil _ _ _, PE.out⟩
 have CF := Lib.hid e2
 by_cases h0 : xs.length = 0
 ·
  have YES : Hid (shJoinE es [f] = (0, putE es f)) := Lib.hid (shPut_yes SOK.out CF.out (fun x hx => by
   have := HX.out.1
   have := (List.getElem?_eq_some_iff.1 hx).1
   omega))
  have l0 : ¬ (0 : Int) < (xs.length : Int) := by omega
  have l1 : ¬ 0 < xs.length := by omega
  have l2 : decide ((0 : Int) < (xs.length : Int)) = false := decide_eq_false (by omega)
  have l3 : decide (0 < xs.length) = false := decide_eq_false (by omega)
  clear h0
  refine wp_region_held_drew (S := fun w' => Chg [] w1 w') (by kernel_rfl) (Chg.refl [] w1).drew (fun hHeld => ?_)
  refine sy 0 11 rfl rfl ?_; try simp only [Act.put, sA, s0, s1]
  refine wpAnyH_ready (rs := [1]) (by kernel_rfl) (by simp) ?_; refine AllReadyH.cons rfl (fun K hK => ?_) AllReadyH.nil; replace hK := Lib.hid hK; go_simp
  refine (SCK.out _ hHeld).mono ?_
  rintro r w3 ⟨rfl, hc⟩
  rw [e1]
  have C9 := Lib.hid (hHeld.trans hc)
  clear hc hHeld
  refine hK.out _ _ C9.out (fun hHeld => ?_)
  clear hK K; try simp only [Act.put, sA, s0, s1]
  refine sy 2 13 rfl rfl ?_; try simp only [Act.put, sA, s0, s1]
  refine sy 3 14 rfl rfl ?_; try simp only [Act.put, sA, s0, s1]
  refine sy 4 15 rfl rfl ?_ (hy := by (intro w hSw; (try dsimp only at hSw); have hq := HB.out _ hSw; obtain ⟨q0, q1, q2, q3, q4, q5, q6⟩ := hq; go_simp; try with_reducible rfl))
  try simp only [Act.put, sA, s0, s1]
  refine wpAnyH_ready (rs := [5]) (by kernel_rfl) (by simp) ?_; refine AllReadyH.cons rfl (fun K hK => ?_) AllReadyH.nil; replace hK := Lib.hid hK; go_simp
  refine (ECK.out _ hHeld).mono ?_
  rintro r w4 ⟨rfl, hc⟩
  rw [e2]
  have C9 := Lib.hid (hHeld.trans hc)
  clear hc hHeld
  refine hK.out _ _ C9.out (fun hHeld => ?_)
  clear hK K; try simp only [Act.put, sA, s0, s1]
  refine sy 6 17 rfl rfl ?_; try simp only [Act.put, sA, s0, s1]
  refine sy 7 18 rfl rfl ?_; try simp only [Act.put, sA, s0, s1]
  refine sy 8 19 rfl rfl ?_; try simp only [Act.put, sA, s0, s1]
  refine sy 9 20 rfl rfl ?_; try simp only [Act.put, sA, s0, s1]
  refine sy 10 21 rfl rfl ?_; try simp only [Act.put, sA, s0, s1]
  refine sy 11 22 rfl rfl ?_; try simp only [Act.put, sA, s0, s1]
  refine sy 12 23 rfl rfl ?_; try simp only [Act.put, sA, s0, s1]
  refine sn 13 24 rfl rfl ?_; try simp only [Act.put, sA, s0, s1]
  refine sn 14 25 rfl rfl ?_; try simp only [Act.put, sA, s0, s1]
  refine sn 15 26 rfl rfl ?_; try simp only [Act.put, sA, s0, s1]
  refine sn 16 27 rfl rfl ?_; try simp only [Act.put, sA, s0, s1]
  refine sn 17 28 rfl rfl ?_; try simp only [Act.put, sA, s0, s1]
  refine sn 18 29 rfl rfl ?_; try simp only [Act.put, sA, s0, s1]
  refine sn 19 30 rfl rfl ?_; try simp only [Act.put, sA, s0, s1]
  refine sy 20 31 rfl rfl ?_; try simp only [Act.put, sA, s0, s1]
  refine sy 21 32 rfl rfl ?_; try simp only [Act.put, sA, s0, s1]
  refine wpAnyH_done (by kernel_rfl) ?_ _; clear l0 l1 l2 l3
  have PC := C9
  clear hHeld SCK ECK C9
  have FI := Lib.hid (shfind_any w4 A c xs y.n y.s (HA.out.chg PC.out (by simp)) (HX.out.up SOK.out.2.2.1) (by have := HN.out; omega))
  obtain ⟨y0, y1, y2, y3, y4, y5, y6⟩ := HB.out _ PC.out
  go_wp2_with fail; clear y0 y1 y2 y3 y4 y5 y6
  refine FI.out.mono ?_
  rintro r w5 ⟨i0, hi0, lo0, hh0, rfl, hc⟩
  have PC5 := Lib.hid (PC.out.trans hc)
  clear hc FI PC hi0 lo0 hh0
  rcases hin : inE xs y.n y.s with _ | _
  rotate_left
  ·
   have ST : Hid (stayE es f = true) := Lib.hid (by rw [stay_or, ← HY.out.n, ← HY.out.s, ← HX.out.inE, hin]; rfl)
   clear hin
   have PF := PC5
   have FE := Lib.hid (frevents_any w5 A c xs es (HA.out.chg PF.out (by simp)) (HX.out.chg PF.out) (by have := HN.out; omega) HQ.out)
   go_wp2_with fail
   refine FE.out.mono ?_
   rintro r w7 ⟨A7, c7, ys, rfl, hl, he, hc⟩
   have P7 := Lib.hid (And.intro he (C1.out.trans (PF.out.trans hc)))
   have LO : Hid (w.heap.size ≤ w5.heap.size) := Lib.hid (Nat.le_trans C1.out.size PF.out.size)
   clear hl he hc FE; go_wp2; go_ret2
   rw [YES.out, put_stays ST.out]
   exact ⟨A7, c7, ys, rfl, P7.out.1.low LO.out, P7.out.2⟩
  have IN := Lib.hid hin
  clear hin
  have AHD := Lib.hid (shahead_any w5 A c xs es y f (HA.out.chg PC5.out (by simp)) (HX.out.chg PC5.out) (by have := HN.out; omega) (HY.out.chg PC5.out) HS.out HT.out)
  obtain ⟨y0, y1, y2, y3, y4, y5, y6⟩ := HB.out _ PC5.out
  go_wp2_with fail; clear y0 y1 y2 y3 y4 y5 y6
  refine AHD.out.mono ?_
  rintro r w6 ⟨rfl, hc⟩
  have PC6 := Lib.hid (PC5.out.trans hc)
  clear hc AHD PC5
  rcases ha : es.any (fun e => aheadP f e) with _ | _
  rotate_left
  ·
   have ST : Hid (stayE es f = true) := Lib.hid (by rw [stay_or, ha, Bool.or_true])
   clear ha
   have PF := PC6
   have FE := Lib.hid (frevents_any w6 A c xs es (HA.out.chg PF.out (by simp)) (HX.out.chg PF.out) (by have := HN.out; omega) HQ.out)
   go_wp2_with fail
   refine FE.out.mono ?_
   rintro r w7 ⟨A7, c7, ys, rfl, hl, he, hc⟩
   have P7 := Lib.hid (And.intro he (C1.out.trans (PF.out.trans hc)))
   have LO : Hid (w.heap.size ≤ w6.heap.size) := Lib.hid (Nat.le_trans C1.out.size PF.out.size)
   clear hl he hc FE; go_wp2; go_ret2
   rw [YES.out, put_stays ST.out]
   exact ⟨A7, c7, ys, rfl, P7.out.1.low LO.out, P7.out.2⟩
  have NST : Hid (stayE es f = false) := Lib.hid (by rw [stay_or, ha, ← HY.out.n, ← HY.out.s, ← HX.out.inE, IN.out]; rfl)
  clear ha
  have WO := Lib.hid (shwithout_any w6 A c xs es y f (HA.out.chg PC6.out (by simp)) (HX.out.chg PC6.out) (by have := HN.out; omega) (HY.out.chg PC6.out) HS.out HT.out)
  obtain ⟨y0, y1, y2, y3, y4, y5, y6⟩ := HB.out _ PC6.out
  go_wp2_with fail; clear y0 y1 y2 y3 y4 y5 y6
  refine WO.out.mono ?_
  rintro r w7 ⟨A7, c7, ys, rfl, hl7, he7, ho7, hn7, hc⟩
  have C67 := Lib.hid hc
  have O7 := Lib.hid ho7
  have N7 : Hid (∀ a, A7 = some a → w6.heap.size ≤ a.block) := Lib.hid hn7
  have E7 := Lib.hid he7
  have L7 : Hid (ys.length ≤ 1000) := Lib.hid (by have := HN.out; omega)
  clear hc ho7 hn7 he7 hl7 WO
  have FI := Lib.hid (shfind_any w7 A7 c7 ys y.n y.s O7.out.reads (E7.out.up (keep_up SOK.out.2.2.1)) (by have := L7.out; omega))
  obtain ⟨y0, y1, y2, y3, y4, y5, y6⟩ := HB.out _ (PC6.out.trans C67.out)
  go_wp2_with fail; clear y0 y1 y2 y3 y4 y5 y6
  refine FI.out.mono ?_
  rintro r w8 ⟨i, hi, lo, hh, rfl, hc⟩
  have C68 := Lib.hid (C67.out.trans hc)
  have O8 := Lib.hid (O7.out.chg hc (by simp))
  have PI := Lib.hid (And.intro hi (put_ins E7.out (HY.out.chg PC6.out) NST.out hi lo hh))
  clear hc FI C67 O7 E7 hi lo hh
  obtain ⟨w9, hw9, c9, b9⟩ := news1 w8 (.cells #[.int .i64 y.n, .int .i64 y.s, .string y.p, .int .i64 y.k, .int .i64 y.m, .slice y.A y.l y.c, .slice y.B y.bl y.bc] 30)
  have W9 := Lib.hid hw9
  have INS := Lib.hid (insev_any w9 A7 c7 ys i w8.heap.size y (O8.out.chg c9 (by simp)) PI.out.1 (by have := L7.out; omega) b9 (fun a ha e => by
   have := O8.out.lt a ha
   omega))
  have C69 := Lib.hid (C68.out.trans c9)
  clear hw9 c9 b9 O8
  obtain ⟨y0, y1, y2, y3, y4, y5, y6⟩ := HB.out _ (PC6.out.trans C68.out)
  go_wp2_with (rw [← W9.out])
  clear y0 y1 y2 y3 y4 y5 y6
  refine INS.out.mono ?_
  rintro r wa ⟨Aa, ca, rfl, hoa, hna, hca⟩
  have ZL : Hid (ys.length + 1 = (ys.take i ++ y :: ys.drop i).length) := Lib.hid (by have := PI.out.1; simp; omega)
  have C6a := Lib.hid (hca w6 C69.out N7.out)
  have OA := Lib.hid hoa
  have PA := Lib.hid (PI.out.2.chg C6a.out)
  obtain ⟨zs, hzs⟩ : ∃ zs, zs = ys.take i ++ y :: ys.drop i := ⟨_, rfl⟩
  have LZ : Hid (zs.length ≤ 100000) := Lib.hid (by rw [hzs, ← ZL.out]; have := L7.out; omega)
  rw [← hzs] at ZL OA PA
  clear hoa hna hca hzs INS C69 C68 W9
  rw [ZL.out]
  have FE := Lib.hid (frevents_any wa Aa ca zs (putE es f) OA.out.reads PA.out LZ.out (fun e he => (put_mem he).elim (fun q => by rw [q]; exact ⟨HT.out.2.1, HTQ.out⟩) (HQ.out e)))
  go_wp2_with fail
  refine FE.out.mono ?_
  rintro r wb ⟨Ab, cb, us, rfl, hl, he, hc⟩
  have P7 := Lib.hid (And.intro he (C1.out.trans (PC6.out.trans (C6a.out.trans hc))))
  have LO : Hid (w.heap.size ≤ wa.heap.size) := Lib.hid (Nat.le_trans C1.out.size (Nat.le_trans PC6.out.size C6a.out.size))
  clear hl he hc FE; go_wp2; go_ret2
  rw [YES.out]
  exact ⟨Ab, cb, us, rfl, P7.out.1.low LO.out, P7.out.2⟩
 obtain ⟨g3, o3, eA, _⟩ := HA.out.line (by omega)
 subst eA
 obtain ⟨y0, f0, ey0, ef0, ry0⟩ := HX.out.at_ (show 0 < xs.length by omega)
 have H0 : Hid (∀ w', Chg [] w1 w' → w'.cell? ⟨g3, o3 + 2, none⟩ = some (.string y0.p)) := Lib.hid (fun w' hc => by
  have q := evCells (HA.out.chg hc (by simp)) ey0
  rw [Nat.zero_mul, Nat.add_zero] at q
  exact q.2.2.1)
 have XP : Hid (y0.p = strOf f0.p ∧ y.p = strOf f.p) := Lib.hid ⟨ry0.p, HY.out.p⟩
 have EF0 := Lib.hid ef0
 have l0 : (0 : Int) < (xs.length : Int) := by omega
 have l1 : 0 < xs.length := by omega
 have l2 : decide ((0 : Int) < (xs.length : Int)) = true := by simp; omega
 have l3 : decide (0 < xs.length) = true := by simp; omega
 clear ey0 ef0 ry0 h0
 by_cases hp : f0.p = f.p
 rotate_left
 ·
  have NO : Hid (shJoinE es [f] = (2, [])) := Lib.hid (shJoin_path EF0.out rfl hp)
  have p1' : ((y0.p == y.p) : Bool) = false := by rw [XP.out.1, XP.out.2]; exact strOf_ne hp
  have p2' : ¬ y0.p = y.p := by rw [XP.out.1, XP.out.2]; exact strOf_ne2 hp
  have p3' : ¬ y0.p.toList = y.p.toList := by rw [XP.out.1, XP.out.2]; exact strOf_ne3s hp
  have p4' : ((y0.p.toList == y.p.toList) : Bool) = false := by simpa using p3'
  clear hp
  refine wp_region_held_drew (S := fun w' => Chg [] w1 w') (by kernel_rfl) (Chg.refl [] w1).drew (fun hHeld => ?_)
  refine sy 0 11 rfl rfl ?_; try simp only [Act.put, sA, s0, s1]
  refine wpAnyH_ready (rs := [1]) (by kernel_rfl) (by simp) ?_; refine AllReadyH.cons rfl (fun K hK => ?_) AllReadyH.nil; replace hK := Lib.hid hK; go_simp
  refine (SCK.out _ hHeld).mono ?_
  rintro r w3 ⟨rfl, hc⟩
  rw [e1]
  have C9 := Lib.hid (hHeld.trans hc)
  clear hc hHeld
  refine hK.out _ _ C9.out (fun hHeld => ?_)
  clear hK K; try simp only [Act.put, sA, s0, s1]
  refine sy 2 13 rfl rfl ?_; try simp only [Act.put, sA, s0, s1]
  refine sy 3 14 rfl rfl ?_; try simp only [Act.put, sA, s0, s1]
  refine sy 4 15 rfl rfl ?_ (hy := by (intro w hSw; (try dsimp only at hSw); have hq := HB.out _ hSw; obtain ⟨q0, q1, q2, q3, q4, q5, q6⟩ := hq; go_simp; try with_reducible rfl))
  try simp only [Act.put, sA, s0, s1]
  refine wpAnyH_ready (rs := [5]) (by kernel_rfl) (by simp) ?_; refine AllReadyH.cons rfl (fun K hK => ?_) AllReadyH.nil; replace hK := Lib.hid hK; go_simp
  refine (ECK.out _ hHeld).mono ?_
  rintro r w4 ⟨rfl, hc⟩
  rw [e2]
  have C9 := Lib.hid (hHeld.trans hc)
  clear hc hHeld
  refine hK.out _ _ C9.out (fun hHeld => ?_)
  clear hK K; try simp only [Act.put, sA, s0, s1]
  refine sy 6 17 rfl rfl ?_; try simp only [Act.put, sA, s0, s1]
  refine sy 7 18 rfl rfl ?_; try simp only [Act.put, sA, s0, s1]
  refine sy 8 19 rfl rfl ?_; try simp only [Act.put, sA, s0, s1]
  refine sy 9 20 rfl rfl ?_; try simp only [Act.put, sA, s0, s1]
  refine sy 10 21 rfl rfl ?_; try simp only [Act.put, sA, s0, s1]
  refine sy 11 22 rfl rfl ?_; try simp only [Act.put, sA, s0, s1]
  refine sy 12 23 rfl rfl ?_; try simp only [Act.put, sA, s0, s1]
  refine sy 13 24 rfl rfl ?_; try simp only [Act.put, sA, s0, s1]
  refine sy 14 25 rfl rfl ?_; try simp only [Act.put, sA, s0, s1]
  refine sy 15 26 rfl rfl ?_; try simp only [Act.put, sA, s0, s1]
  refine sy 16 27 rfl rfl ?_ (hy := by (intro w hSw; (try dsimp only at hSw); have hq := H0.out _ hSw; go_simp; try with_reducible rfl))
  try simp only [Act.put, sA, s0, s1]
  refine sy 17 28 rfl rfl ?_; try simp only [Act.put, sA, s0, s1]
  refine sy 18 29 rfl rfl ?_ (hy := by (intro w hSw; (try dsimp only at hSw); have hq := HB.out _ hSw; obtain ⟨q0, q1, q2, q3, q4, q5, q6⟩ := hq; go_simp; try with_reducible rfl))
  try simp only [Act.put, sA, s0, s1]
  refine sy 19 30 rfl rfl ?_; try simp only [Act.put, sA, s0, s1]
  refine sy 20 31 rfl rfl ?_; try simp only [Act.put, sA, s0, s1]
  refine sy 21 32 rfl rfl ?_; try simp only [Act.put, sA, s0, s1]
  refine wpAnyH_done (by kernel_rfl) ?_ _
  have PE := Lib.hid (C1.out.trans C9.out)
  clear hHeld HB SCK ECK; go_wp2; go_ret2
  rw [NO.out]
  exact ⟨none, 0, [], rfl, EsF.nil _ _ _, PE.out⟩
 have YES : Hid (shJoinE es [f] = (0, putE es f)) := Lib.hid (shPut_yes SOK.out CF.out (fun x hx => by rw [EF0.out] at hx; cases hx; exact hp))
 have p1' : ((y0.p == y.p) : Bool) = true := by rw [XP.out.1, XP.out.2, hp]; show ((f.p.toArray == f.p.toArray) : Bool) = true; simp
 have p4' : ((y0.p.toList == y.p.toList) : Bool) = true := by rw [XP.out.1, XP.out.2, hp]; simp
 clear hp
 refine wp_region_held_drew (S := fun w' => Chg [] w1 w') (by kernel_rfl) (Chg.refl [] w1).drew (fun hHeld => ?_)
 refine sy 0 11 rfl rfl ?_; try simp only [Act.put, sA, s0, s1]
 refine wpAnyH_ready (rs := [1]) (by kernel_rfl) (by simp) ?_; refine AllReadyH.cons rfl (fun K hK => ?_) AllReadyH.nil; replace hK := Lib.hid hK; go_simp
 refine (SCK.out _ hHeld).mono ?_
 rintro r w3 ⟨rfl, hc⟩
 rw [e1]
 have C9 := Lib.hid (hHeld.trans hc)
 clear hc hHeld
 refine hK.out _ _ C9.out (fun hHeld => ?_)
 clear hK K; try simp only [Act.put, sA, s0, s1]
 refine sy 2 13 rfl rfl ?_; try simp only [Act.put, sA, s0, s1]
 refine sy 3 14 rfl rfl ?_; try simp only [Act.put, sA, s0, s1]
 refine sy 4 15 rfl rfl ?_ (hy := by (intro w hSw; (try dsimp only at hSw); have hq := HB.out _ hSw; obtain ⟨q0, q1, q2, q3, q4, q5, q6⟩ := hq; go_simp; try with_reducible rfl))
 try simp only [Act.put, sA, s0, s1]
 refine wpAnyH_ready (rs := [5]) (by kernel_rfl) (by simp) ?_; refine AllReadyH.cons rfl (fun K hK => ?_) AllReadyH.nil; replace hK := Lib.hid hK; go_simp
 refine (ECK.out _ hHeld).mono ?_
 rintro r w4 ⟨rfl, hc⟩
 rw [e2]
 have C9 := Lib.hid (hHeld.trans hc)
 clear hc hHeld
 refine hK.out _ _ C9.out (fun hHeld => ?_)
 clear hK K; try simp only [Act.put, sA, s0, s1]
 refine sy 6 17 rfl rfl ?_; try simp only [Act.put, sA, s0, s1]
 refine sy 7 18 rfl rfl ?_; try simp only [Act.put, sA, s0, s1]
 refine sy 8 19 rfl rfl ?_; try simp only [Act.put, sA, s0, s1]
 refine sy 9 20 rfl rfl ?_; try simp only [Act.put, sA, s0, s1]
 refine sy 10 21 rfl rfl ?_; try simp only [Act.put, sA, s0, s1]
 refine sy 11 22 rfl rfl ?_; try simp only [Act.put, sA, s0, s1]
 refine sy 12 23 rfl rfl ?_; try simp only [Act.put, sA, s0, s1]
 refine sy 13 24 rfl rfl ?_; try simp only [Act.put, sA, s0, s1]
 refine sy 14 25 rfl rfl ?_; try simp only [Act.put, sA, s0, s1]
 refine sy 15 26 rfl rfl ?_; try simp only [Act.put, sA, s0, s1]
 refine sy 16 27 rfl rfl ?_ (hy := by (intro w hSw; (try dsimp only at hSw); have hq := H0.out _ hSw; go_simp; try with_reducible rfl))
 try simp only [Act.put, sA, s0, s1]
 refine sy 17 28 rfl rfl ?_; try simp only [Act.put, sA, s0, s1]
 refine sy 18 29 rfl rfl ?_ (hy := by (intro w hSw; (try dsimp only at hSw); have hq := HB.out _ hSw; obtain ⟨q0, q1, q2, q3, q4, q5, q6⟩ := hq; go_simp; try with_reducible rfl))
 try simp only [Act.put, sA, s0, s1]
 refine sy 19 30 rfl rfl ?_; try simp only [Act.put, sA, s0, s1]
 refine sy 20 31 rfl rfl ?_; try simp only [Act.put, sA, s0, s1]
 refine sy 21 32 rfl rfl ?_; try simp only [Act.put, sA, s0, s1]
 refine wpAnyH_done (by kernel_rfl) ?_ _; clear l0 l1 l2 l3 p1' p4' H0
 have PC := C9
 clear hHeld SCK ECK C9
 have FI := Lib.hid (shfind_any w4 (some ⟨g3, o3, none⟩) c xs y.n y.s (HA.out.chg PC.out (by simp)) (HX.out.up SOK.out.2.2.1) (by have := HN.out; omega))
 obtain ⟨y0, y1, y2, y3, y4, y5, y6⟩ := HB.out _ PC.out
 go_wp2_with fail; clear y0 y1 y2 y3 y4 y5 y6
 refine FI.out.mono ?_
 rintro r w5 ⟨i0, hi0, lo0, hh0, rfl, hc⟩
 have PC5 := Lib.hid (PC.out.trans hc)
 clear hc FI PC hi0 lo0 hh0
 rcases hin : inE xs y.n y.s with _ | _
 rotate_left
 ·
  have ST : Hid (stayE es f = true) := Lib.hid (by rw [stay_or, ← HY.out.n, ← HY.out.s, ← HX.out.inE, hin]; rfl)
  clear hin
  have PF := PC5
  have FE := Lib.hid (frevents_any w5 (some ⟨g3, o3, none⟩) c xs es (HA.out.chg PF.out (by simp)) (HX.out.chg PF.out) (by have := HN.out; omega) HQ.out)
  go_wp2_with fail
  refine FE.out.mono ?_
  rintro r w7 ⟨A7, c7, ys, rfl, hl, he, hc⟩
  have P7 := Lib.hid (And.intro he (C1.out.trans (PF.out.trans hc)))
  have LO : Hid (w.heap.size ≤ w5.heap.size) := Lib.hid (Nat.le_trans C1.out.size PF.out.size)
  clear hl he hc FE; go_wp2; go_ret2
  rw [YES.out, put_stays ST.out]
  exact ⟨A7, c7, ys, rfl, P7.out.1.low LO.out, P7.out.2⟩
 have IN := Lib.hid hin
 clear hin
 have AHD := Lib.hid (shahead_any w5 (some ⟨g3, o3, none⟩) c xs es y f (HA.out.chg PC5.out (by simp)) (HX.out.chg PC5.out) (by have := HN.out; omega) (HY.out.chg PC5.out) HS.out HT.out)
 obtain ⟨y0, y1, y2, y3, y4, y5, y6⟩ := HB.out _ PC5.out
 go_wp2_with fail; clear y0 y1 y2 y3 y4 y5 y6
 refine AHD.out.mono ?_
 rintro r w6 ⟨rfl, hc⟩
 have PC6 := Lib.hid (PC5.out.trans hc)
 clear hc AHD PC5
 rcases ha : es.any (fun e => aheadP f e) with _ | _
 rotate_left
 ·
  have ST : Hid (stayE es f = true) := Lib.hid (by rw [stay_or, ha, Bool.or_true])
  clear ha
  have PF := PC6
  have FE := Lib.hid (frevents_any w6 (some ⟨g3, o3, none⟩) c xs es (HA.out.chg PF.out (by simp)) (HX.out.chg PF.out) (by have := HN.out; omega) HQ.out)
  go_wp2_with fail
  refine FE.out.mono ?_
  rintro r w7 ⟨A7, c7, ys, rfl, hl, he, hc⟩
  have P7 := Lib.hid (And.intro he (C1.out.trans (PF.out.trans hc)))
  have LO : Hid (w.heap.size ≤ w6.heap.size) := Lib.hid (Nat.le_trans C1.out.size PF.out.size)
  clear hl he hc FE; go_wp2; go_ret2
  rw [YES.out, put_stays ST.out]
  exact ⟨A7, c7, ys, rfl, P7.out.1.low LO.out, P7.out.2⟩
 have NST : Hid (stayE es f = false) := Lib.hid (by rw [stay_or, ha, ← HY.out.n, ← HY.out.s, ← HX.out.inE, IN.out]; rfl)
 clear ha
 have WO := Lib.hid (shwithout_any w6 (some ⟨g3, o3, none⟩) c xs es y f (HA.out.chg PC6.out (by simp)) (HX.out.chg PC6.out) (by have := HN.out; omega) (HY.out.chg PC6.out) HS.out HT.out)
 obtain ⟨y0, y1, y2, y3, y4, y5, y6⟩ := HB.out _ PC6.out
 go_wp2_with fail; clear y0 y1 y2 y3 y4 y5 y6
 refine WO.out.mono ?_
 rintro r w7 ⟨A7, c7, ys, rfl, hl7, he7, ho7, hn7, hc⟩
 have C67 := Lib.hid hc
 have O7 := Lib.hid ho7
 have N7 : Hid (∀ a, A7 = some a → w6.heap.size ≤ a.block) := Lib.hid hn7
 have E7 := Lib.hid he7
 have L7 : Hid (ys.length ≤ 1000) := Lib.hid (by have := HN.out; omega)
 clear hc ho7 hn7 he7 hl7 WO
 have FI := Lib.hid (shfind_any w7 A7 c7 ys y.n y.s O7.out.reads (E7.out.up (keep_up SOK.out.2.2.1)) (by have := L7.out; omega))
 obtain ⟨y0, y1, y2, y3, y4, y5, y6⟩ := HB.out _ (PC6.out.trans C67.out)
 go_wp2_with fail; clear y0 y1 y2 y3 y4 y5 y6
 refine FI.out.mono ?_
 rintro r w8 ⟨i, hi, lo, hh, rfl, hc⟩
 have C68 := Lib.hid (C67.out.trans hc)
 have O8 := Lib.hid (O7.out.chg hc (by simp))
 have PI := Lib.hid (And.intro hi (put_ins E7.out (HY.out.chg PC6.out) NST.out hi lo hh))
 clear hc FI C67 O7 E7 hi lo hh
 obtain ⟨w9, hw9, c9, b9⟩ := news1 w8 (.cells #[.int .i64 y.n, .int .i64 y.s, .string y.p, .int .i64 y.k, .int .i64 y.m, .slice y.A y.l y.c, .slice y.B y.bl y.bc] 30)
 have W9 := Lib.hid hw9
 have INS := Lib.hid (insev_any w9 A7 c7 ys i w8.heap.size y (O8.out.chg c9 (by simp)) PI.out.1 (by have := L7.out; omega) b9 (fun a ha e => by
  have := O8.out.lt a ha
  omega))
 have C69 := Lib.hid (C68.out.trans c9)
 clear hw9 c9 b9 O8
 obtain ⟨y0, y1, y2, y3, y4, y5, y6⟩ := HB.out _ (PC6.out.trans C68.out)
 go_wp2_with (rw [← W9.out])
 clear y0 y1 y2 y3 y4 y5 y6
 refine INS.out.mono ?_
 rintro r wa ⟨Aa, ca, rfl, hoa, hna, hca⟩
 have ZL : Hid (ys.length + 1 = (ys.take i ++ y :: ys.drop i).length) := Lib.hid (by have := PI.out.1; simp; omega)
 have C6a := Lib.hid (hca w6 C69.out N7.out)
 have OA := Lib.hid hoa
 have PA := Lib.hid (PI.out.2.chg C6a.out)
 obtain ⟨zs, hzs⟩ : ∃ zs, zs = ys.take i ++ y :: ys.drop i := ⟨_, rfl⟩
 have LZ : Hid (zs.length ≤ 100000) := Lib.hid (by rw [hzs, ← ZL.out]; have := L7.out; omega)
 rw [← hzs] at ZL OA PA
 clear hoa hna hca hzs INS C69 C68 W9
 rw [ZL.out]
 have FE := Lib.hid (frevents_any wa Aa ca zs (putE es f) OA.out.reads PA.out LZ.out (fun e he => (put_mem he).elim (fun q => by rw [q]; exact ⟨HT.out.2.1, HTQ.out⟩) (HQ.out e)))
 go_wp2_with fail
 refine FE.out.mono ?_
 rintro r wb ⟨Ab, cb, us, rfl, hl, he, hc⟩
 have P7 := Lib.hid (And.intro he (C1.out.trans (PC6.out.trans (C6a.out.trans hc))))
 have LO : Hid (w.heap.size ≤ wa.heap.size) := Lib.hid (Nat.le_trans C1.out.size (Nat.le_trans PC6.out.size C6a.out.size))
 clear hl he hc FE; go_wp2; go_ret2
 rw [YES.out]
 exact ⟨Ab, cb, us, rfl, P7.out.1.low LO.out, P7.out.2⟩
end
section
open Go.RowKit Go.Lib


set_option maxRecDepth 100000 in
set_option maxHeartbeats 4000000 in
theorem stthose1_any (w : World) (gq gf : Nat) (lb : Array Value) (x : EvT) (v : Bool) (eg : ∀ args w, (callFunc gf args).run Tryz.prog w = .ok (.enter gf args) w) (hq : w.heap[gq]? = some (.cells #[.func (.func gf) #[] lb] 85 (0, 0))) (HF : ∀ w', Chg [] w w' → Calls Tryz.prog gf (#[.agg #[.int .i64 x.n, .int .i64 x.s, .string x.p, .int .i64 x.k, .int .i64 x.m, .slice x.A x.l x.c, .slice x.B x.bl x.bc]] ++ lb) w' fun r w2 => r = .returned (.bool v) ∧ Chg [] w' w2) :
  Calls Tryz.prog 123 #[.agg #[.int .i64 x.n, .int .i64 x.s, .string x.p, .int .i64 x.k, .int .i64 x.m, .slice x.A x.l x.c, .slice x.B x.bl x.bc], .pointer (some ⟨gq, 0, none⟩)] w fun r w' => r = .returned (.bool (!v)) ∧ Chg [] w w' := by
 obtain ⟨w1, hw1, c1, b1⟩ := news1 w (.cells #[.int .i64 x.n, .int .i64 x.s, .string x.p, .int .i64 x.k, .int .i64 x.m, .slice x.A x.l x.c, .slice x.B x.bl x.bc] 30)
 have W1 := Lib.hid hw1
 have C1 := Lib.hid c1
 have CC := Lib.hid (HF w1 c1)
 have p1 := c1.at_ hq (by simp)
 have z0 := cell_of b1 0
 have z1 := cell_of b1 1
 have z2 := cell_of b1 2
 have z3 := cell_of b1 3
 have z4 := cell_of b1 4
 have z5 := cell_of b1 5
 have z6 := cell_of b1 6
 have u0 := cell_of p1 0
 simp only [List.getElem?_toArray, List.getElem?_cons_succ, List.getElem?_cons_zero] at z0 z1 z2 z3 z4 z5 z6 u0
 clear hw1 c1 b1 hq p1 HF
 go_enter Tryz.func123, Tryz.ntmps123
 go_upto_region 1 with fail
 rw [← W1.out]
 generalize w.heap.size = g1 at *
 clear W1; go_wp2_with fail; clear z0 z1 z2 z3 z4 z5 z6 u0
 refine CC.out.mono ?_
 rintro r w2 ⟨rfl, hc⟩
 replace C1 := Lib.hid (C1.out.trans hc)
 clear hc CC; go_wp2; go_ret
 exact ⟨rfl, C1.out⟩

set_option maxRecDepth 100000 in
set_option maxHeartbeats 4000000 in
theorem stthose_any (w : World) (A : Option Addr) (c : Nat) (xs : List EvT) (es : List EvP) (gf : Nat) (lb : Array Value) (q : EvP → Bool) (h : RdK evTy w A xs.length xs) (hx : EvsR w xs es) (hn : xs.length ≤ 100000) (hs : ∀ e ∈ es, e.b.length ≤ 140737488351232 ∧ e.q.length ≤ 100000) (eg : ∀ args w, (callFunc gf args).run Tryz.prog w = .ok (.enter gf args) w)
  (HF : ∀ (w' : World), Chg [] w w' → ∀ (i : Nat) (x : EvT) (e : EvP), xs[i]? = some x → es[i]? = some e → Calls Tryz.prog gf (#[.agg #[.int .i64 x.n, .int .i64 x.s, .string x.p, .int .i64 x.k, .int .i64 x.m, .slice x.A x.l x.c, .slice x.B x.bl x.bc]] ++ lb) w' fun r w2 => r = .returned (.bool (q e)) ∧ Chg [] w' w2) :
  Calls Tryz.prog 60 #[.slice A xs.length c, .func (.func gf) #[] lb] w fun r w' => ∃ (A' : Option Addr) (c' : Nat) (zs : List EvT), r = .returned (.slice A' zs.length c') ∧ zs.length ≤ xs.length ∧ EsF w' w.heap.size w'.heap.size A' c' zs (es.filter q) ∧ Chg [] w w' := by
 obtain ⟨w1, hw1, c1, b1⟩ := news1 w (.cells #[.func (.func gf) #[] lb] 85)
 have W1 := Lib.hid hw1
 have C1 := Lib.hid c1
 have HC := Lib.hid (cloneEv_any w1 A xs.length c xs (h.chg c1 (by simp)) (by omega))
 have DEL := Lib.hid (fun (w3 : World) (A3 : Option Addr) (c3 : Nat) (h0 : Chg [] w1 w3) (ho : OwnK evTy w3 A3 c3 xs) (hA : ∀ a, A3 = some a → w1.heap.size ≤ a.block) => evfdel_any w w1 w3 A3 c3 xs es 123 #[.pointer (some ⟨w.heap.size, 0, none⟩)] (fun e => !q e) (enters_of Tryz.func123 (by kernel_rfl) rfl) c1 h0 ho hA hx hn (fun wr hc i x e ex ee => stthose1_any wr w.heap.size gf lb x (q e) eg (hc.at_ b1 (by simp)) (fun w' hc' => HF w' (c1.trans (hc.trans hc')) i x e ex ee)))
 have HX := Lib.hid hx
 have HN := Lib.hid hn
 have HS := Lib.hid hs
 have SZ := Lib.hid c1.size
 have FQ : Hid (es.filter (fun e => !(!q e)) = es.filter q) := Lib.hid (by simp only [Bool.not_not])
 clear hw1 c1 b1 h hx hn hs HF
 go_enter Tryz.func60, Tryz.ntmps60
 go_upto_region 1 with fail
 rw [← W1.out]
 obtain ⟨g0, hg0⟩ : ∃ g, w.heap.size = g := ⟨_, rfl⟩
 rw [hg0] at DEL ⊢
 clear W1; go_wp2_with fail
 refine HC.out.mono ?_
 rintro r w3 ⟨A3, c3, rfl, ho, hA, hc⟩
 have D := Lib.hid (DEL.out w3 A3 c3 hc ho hA)
 clear ho hA hc HC DEL; go_wp2_with fail
 refine D.out.mono ?_
 rintro r w4 ⟨ys, rfl, hl, he, ho, hc⟩
 rw [FQ.out] at he
 have C4 := Lib.hid (C1.out.trans hc)
 have L4 := Lib.hid hl
 have FR := Lib.hid (frevents_any w4 A3 c3 ys (es.filter q) ho.reads (he.chg C4.out) (by have := HN.out; omega) (fun e he => HS.out e (List.mem_filter.1 he).1))
 clear D hl he ho hc FQ; go_wp2_with fail
 refine FR.out.mono ?_
 rintro r w5 ⟨A5, c5, zs, rfl, hl, he, hc⟩
 have P := Lib.hid (And.intro (show zs.length ≤ xs.length by have := L4.out; omega) (And.intro (he.low C4.out.size) (C4.out.trans hc)))
 clear hl he hc FR; go_wp2; go_ret
 rw [← hg0]
 exact ⟨A5, c5, zs, rfl, P.out.1, P.out.2.1, P.out.2.2⟩
end
section
open Go.RowKit Go.Lib

set_option maxRecDepth 100000 in
set_option maxHeartbeats 4000000 in
theorem stshelf1_any (w : World) (gp : Nat) (p : List UInt8) (x : EvT) (e : EvP) (hp : w.heap[gp]? = some (.cells #[.string (strOf p)] 9 (0, 0))) (hx : x.p = strOf e.p) :
  Calls Tryz.prog 61 #[.agg #[.int .i64 x.n, .int .i64 x.s, .string x.p, .int .i64 x.k, .int .i64 x.m, .slice x.A x.l x.c, .slice x.B x.bl x.bc], .pointer (some ⟨gp, 0, none⟩)] w fun r w' => r = .returned (.bool (decide (e.p = p))) ∧ Chg [] w w' := by
 obtain ⟨w1, hw1, c1, b1⟩ := news1 w (.cells #[.int .i64 x.n, .int .i64 x.s, .string x.p, .int .i64 x.k, .int .i64 x.m, .slice x.A x.l x.c, .slice x.B x.bl x.bc] 30)
 have W1 := Lib.hid hw1
 have C1 := Lib.hid c1
 have p1 := c1.at_ hp (by simp)
 have z2 := cell_of b1 2
 have u0 := cell_of p1 0
 simp only [List.getElem?_toArray, List.getElem?_cons_succ, List.getElem?_cons_zero] at z2 u0
 rw [hx] at z2
 have HX := Lib.hid hx
 by_cases q : e.p = p
 ·
  have e2 : decide (e.p = p) = true := decide_eq_true q
  rw [e2]
  clear hw1 c1 b1 hp p1 hx e2
  go_enter Tryz.func61, Tryz.ntmps61
  go_upto_region 1 with fail
  rw [← W1.out]
  generalize w.heap.size = g1 at *
  clear W1; go_wp2; go_ret
  exact ⟨by first | rfl | simp [q] | simpa using q, C1.out⟩
 ·
  have e1 := strOf_ne q
  have e3 := strOf_ne2 q
  have e2 : decide (e.p = p) = false := decide_eq_false q
  rw [e2]
  clear hw1 c1 b1 hp p1 hx e2
  go_enter Tryz.func61, Tryz.ntmps61
  go_upto_region 1 with fail
  rw [← W1.out]
  generalize w.heap.size = g1 at *
  clear W1; go_wp2; go_ret
  exact ⟨by first | rfl | simp [q] | simpa using q, C1.out⟩
set_option maxRecDepth 100000 in
set_option maxHeartbeats 4000000 in
theorem stnear1_any (w : World) (gp : Nat) (p : List UInt8) (x : EvT) (e : EvP) (hp : w.heap[gp]? = some (.cells #[.string (strOf p)] 9 (0, 0))) (hx : x.p = strOf e.p) (hl : e.p.length ≤ 140737488351232 ∧ p.length ≤ 140737488351232) :
  Calls Tryz.prog 62 #[.agg #[.int .i64 x.n, .int .i64 x.s, .string x.p, .int .i64 x.k, .int .i64 x.m, .slice x.A x.l x.c, .slice x.B x.bl x.bc], .pointer (some ⟨gp, 0, none⟩)] w fun r w' => r = .returned (.bool (nearL e.p p)) ∧ Chg [] w w' := by
 obtain ⟨w1, hw1, c1, b1⟩ := news1 w (.cells #[.int .i64 x.n, .int .i64 x.s, .string x.p, .int .i64 x.k, .int .i64 x.m, .slice x.A x.l x.c, .slice x.B x.bl x.bc] 30)
 have W1 := Lib.hid hw1
 have C1 := Lib.hid c1
 have CC := Lib.hid (phnear_any w1 e.p p hl.1 hl.2)
 have p1 := c1.at_ hp (by simp)
 have z2 := cell_of b1 2
 have u0 := cell_of p1 0
 simp only [List.getElem?_toArray, List.getElem?_cons_succ, List.getElem?_cons_zero] at z2 u0
 rw [hx] at z2
 have HX := Lib.hid hx
 clear hw1 c1 b1 hp p1 hx hl
 go_enter Tryz.func62, Tryz.ntmps62
 go_upto_region 1 with fail
 rw [← W1.out]
 generalize w.heap.size = g1 at *
 clear W1; go_wp2_with fail; clear z2 u0
 refine CC.out.mono ?_
 rintro r w2 ⟨rfl, hc⟩
 have C2 := Lib.hid (C1.out.trans (below_chg8 hc))
 clear hc CC; go_wp2; go_ret
 exact ⟨rfl, C2.out⟩
set_option maxRecDepth 100000 in
set_option maxHeartbeats 4000000 in
theorem stmissing1_any (w : World) (gp : Nat) (K : Option Addr) (kc : Nat) (ks : List Sp) (x : EvT) (e : EvP) (hp : w.heap[gp]? = some (.cells #[.slice K ks.length kc] 28 (0, 0))) (hk : RdK spanTy w K ks.length ks) (hl : ks.length ≤ 140737488351232) (hx : x.n = e.n ∧ x.s = e.s) :
  Calls Tryz.prog 64 #[.agg #[.int .i64 x.n, .int .i64 x.s, .string x.p, .int .i64 x.k, .int .i64 x.m, .slice x.A x.l x.c, .slice x.B x.bl x.bc], .pointer (some ⟨gp, 0, none⟩)] w fun r w' => r = .returned (.bool (!hasE ks e.n e.s)) ∧ Chg [] w w' := by
 obtain ⟨w1, hw1, c1, b1⟩ := news1 w (.cells #[.int .i64 x.n, .int .i64 x.s, .string x.p, .int .i64 x.k, .int .i64 x.m, .slice x.A x.l x.c, .slice x.B x.bl x.bc] 30)
 have W1 := Lib.hid hw1
 have C1 := Lib.hid c1
 have CC := Lib.hid (has_any w1 K kc ks x.n x.s (hk.chg c1 (by simp)) hl)
 have HV : Hid (hasE ks x.n x.s = hasE ks e.n e.s) := Lib.hid (by rw [hx.1, hx.2])
 have p1 := c1.at_ hp (by simp)
 have z0 := cell_of b1 0
 have z1 := cell_of b1 1
 have u0 := cell_of p1 0
 simp only [List.getElem?_toArray, List.getElem?_cons_succ, List.getElem?_cons_zero] at z0 z1 u0
 clear hw1 c1 b1 hp p1 hx hl hk
 go_enter Tryz.func64, Tryz.ntmps64
 go_upto_region 1 with fail
 rw [← W1.out]
 generalize w.heap.size = g1 at *
 clear W1; go_wp2_with fail; clear z0 z1 u0
 refine CC.out.mono ?_
 rintro r w2 ⟨rfl, hc⟩
 rw [HV.out]
 replace C1 := Lib.hid (C1.out.trans hc)
 clear hc CC; go_wp2; go_ret
 exact ⟨rfl, C1.out⟩
end
end Go.Proofs.YtomgjogkkoigbaaGreatDoor
