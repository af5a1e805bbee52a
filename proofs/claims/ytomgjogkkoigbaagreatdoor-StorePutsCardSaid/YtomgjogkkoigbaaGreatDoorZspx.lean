/- The document's Check of a shelf. The document's Less. The document's Check (store). -/
import Derived.Test.YtomgjogkkoigbaaGreatDoorZspu
import Derived.Test.YtomgjogkkoigbaaGreatDoorZspw
import Derived.Deep.Cut
import Derived.BigQuiet
import Derived.Test.YtomgjogkkoigbaaGreatDoorZspr
import Derived.Test.YtomgjogkkoigbaaGreatDoorZsps
import Derived.Test.YtomgjogkkoigbaaGreatDoorZspv
import Derived.Deep.RegionHeld3
set_option linter.unusedSimpArgs false
set_option linter.unusedVariables false
namespace Go.Proofs.YtomgjogkkoigbaaGreatDoor
section
open Go.RowKit Go.Lib


set_option maxRecDepth 100000 in
set_option maxHeartbeats 16000000 in
theorem kscheck_any (w : World) (A : Option Addr) (c : Nat) (xs : List EvT) (es : List EvP) (h : RdK evTy w A xs.length xs) (hx : EvsR w xs es) (hn : xs.length ≤ 100000) (hs : ∀ e ∈ es, EvSm e) :
  Calls Tryz.prog 56 #[.slice A xs.length c] w fun r w' => r = .returned (.int .i64 (shE es)) ∧ Chg [] w w' := by

 have HX := Lib.hid hx
 have HN := Lib.hid hn
 have HS := Lib.hid hs
 have HA := Lib.hid h
 clear h hx hn hs
 go_enter Tryz.func56, Tryz.ntmps56
 go_wp2
 go_loopw [3] (fun v3 wr => ∃ (k : Nat), k ≤ xs.length ∧ v3 = .int .i64 k ∧ Hid (ShTo es k) ∧ Hid (∀ e ∈ es.take k, es.any (fun x => aheadP e x) = false) ∧ Hid (Chg [] w wr)) (fun v3 _ => xs.length - (RowKit.intOf v3).toNat)
 case atStart => exact ⟨0, Nat.zero_le _, rfl, Lib.hid (shTo_zero _), Lib.hid (by simp), Chg.refl _ _⟩
 case round =>
  obtain ⟨k, hk, rfl, ST, NA, PC⟩ := hrel
  have j0 : (0 : Int) ≤ (k : Int) := by omega
  by_cases hlt : k < xs.length
  ·
   have j1 : (k : Int) < (xs.length : Int) := by omega
   have j3 : IntKind.i64.wrap ((k : Int) + 1) = (k : Int) + 1 := IntWalk.i64_in _ (by have := HN.out; omega)
   obtain ⟨g3, o3, eA, _⟩ := HA.out.line (by omega)
   subst eA
   obtain ⟨x, e, ex, ee, rx⟩ := HX.out.at_ hlt
   obtain ⟨y0, f0, ey0, ef0, ry0⟩ := HX.out.at_ (show 0 < xs.length by omega)
   have EX := Lib.hid ex
   have EE := Lib.hid ee
   have RX1 := Lib.hid rx
   have EF0 := Lib.hid ef0
   have XP : Hid (x.p = strOf e.p ∧ y0.p = strOf f0.p) := Lib.hid ⟨rx.p, ry0.p⟩
   have EY0 := Lib.hid ey0
   have ES1 := Lib.hid (HS.out e (List.mem_of_getElem? ee))
   clear ex ee rx ey0 ef0 ry0
   go_upto_region 4 with fail
   have HB : Hid (∀ w', Chg [] wr w' → (w'.cell? ⟨g3, o3 + k * 7, none⟩ = some (.int .i64 x.n) ∧ w'.cell? ⟨g3, o3 + k * 7 + 1, none⟩ = some (.int .i64 x.s) ∧ w'.cell? ⟨g3, o3 + k * 7 + 2, none⟩ = some (.string x.p) ∧ w'.cell? ⟨g3, o3 + k * 7 + 3, none⟩ = some (.int .i64 x.k) ∧ w'.cell? ⟨g3, o3 + k * 7 + 4, none⟩ = some (.int .i64 x.m) ∧ w'.cell? ⟨g3, o3 + k * 7 + 5, none⟩ = some (.slice x.A x.l x.c) ∧ w'.cell? ⟨g3, o3 + k * 7 + 6, none⟩ = some (.slice x.B x.bl x.bc))) := Lib.hid (fun w' hc => evCells (HA.out.chg (PC.out.trans hc) (by simp)) EX.out)
   have HR : Hid (∀ w', Chg [] wr w' → ∀ y, xs[k - 1]? = some y → w'.cell? ⟨g3, o3 + (k - 1) * 7, none⟩ = some (.int .i64 y.n) ∧ w'.cell? ⟨g3, o3 + (k - 1) * 7 + 1, none⟩ = some (.int .i64 y.s)) := Lib.hid (fun w' hc y hy => by
    have q := evCells (HA.out.chg (PC.out.trans hc) (by simp)) hy
    exact ⟨q.1, q.2.1⟩)
   have H0 : Hid (∀ w', Chg [] wr w' → w'.cell? ⟨g3, o3 + 2, none⟩ = some (.string y0.p)) := Lib.hid (fun w' hc => by
    have q := evCells (HA.out.chg (PC.out.trans hc) (by simp)) EY0.out
    rw [Nat.zero_mul, Nat.add_zero] at q
    exact q.2.2.1)
   have CHK : Hid (∀ w', Chg [] wr w' → Calls Tryz.prog 49 #[.agg #[.int .i64 x.n, .int .i64 x.s, .string x.p, .int .i64 x.k, .int .i64 x.m, .slice x.A x.l x.c, .slice x.B x.bl x.bc]] w' fun r w2 => r = .returned (.int .i64 (chkEv e)) ∧ Chg [] w' w2) := Lib.hid (fun w' hc => vecheck_any w' x e (RX1.out.chg (PC.out.trans hc)) ES1.out)
   have l0 : (0 : Int) < (xs.length : Int) := by omega
   have l1 : 0 < xs.length := by omega
   rcases chkEv_two e with e1 | e1
   rotate_left
   ·
    have NO : Hid (shE es = 2) := Lib.hid (sh_no_chk EE.out (by omega))
    refine wp_region_held_drew (S := fun w' => Chg [] wr w') (by kernel_rfl) (Chg.refl [] wr).drew (fun hHeld => ?_)
    refine sy 0 11 rfl rfl ?_; try simp only [Act.put, sA, s0, s1]
    refine sy 1 12 rfl rfl ?_; try simp only [Act.put, sA, s0, s1]
    refine sy 2 13 rfl rfl ?_; try simp only [Act.put, sA, s0, s1]
    refine sy 3 14 rfl rfl ?_ (hy := by (intro w hSw; (try dsimp only at hSw); have hq := HB.out _ hSw; obtain ⟨q0, q1, q2, q3, q4, q5, q6⟩ := hq; go_simp; try with_reducible rfl))
    try simp only [Act.put, sA, s0, s1]
    refine wpAnyH_ready (rs := [4]) (by kernel_rfl) (by simp) ?_; refine AllReadyH.cons rfl (fun K hK => ?_) AllReadyH.nil; replace hK := Lib.hid hK; go_simp
    refine (CHK.out _ hHeld).mono ?_
    rintro r w9 ⟨rfl, hc⟩
    rw [e1]
    have C9 := Lib.hid (hHeld.trans hc)
    clear hc hHeld
    refine hK.out _ _ C9.out (fun hHeld => ?_)
    clear hK K; try simp only [Act.put, sA, s0, s1]
    refine sy 5 16 rfl rfl ?_; try simp only [Act.put, sA, s0, s1]
    refine sy 6 17 rfl rfl ?_; try simp only [Act.put, sA, s0, s1]
    refine sn 7 18 rfl rfl ?_; try simp only [Act.put, sA, s0, s1]
    refine sn 8 19 rfl rfl ?_; try simp only [Act.put, sA, s0, s1]
    refine sn 9 20 rfl rfl ?_; try simp only [Act.put, sA, s0, s1]
    refine sn 10 21 rfl rfl ?_; try simp only [Act.put, sA, s0, s1]
    refine sn 11 22 rfl rfl ?_; try simp only [Act.put, sA, s0, s1]
    refine sn 12 23 rfl rfl ?_; try simp only [Act.put, sA, s0, s1]
    refine sn 13 24 rfl rfl ?_; try simp only [Act.put, sA, s0, s1]
    refine sn 14 25 rfl rfl ?_; try simp only [Act.put, sA, s0, s1]
    refine sn 15 26 rfl rfl ?_; try simp only [Act.put, sA, s0, s1]
    refine sn 16 27 rfl rfl ?_; try simp only [Act.put, sA, s0, s1]
    refine sy 17 28 rfl rfl ?_; try simp only [Act.put, sA, s0, s1]
    refine sy 18 29 rfl rfl ?_; try simp only [Act.put, sA, s0, s1]
    refine sn 19 30 rfl rfl ?_; try simp only [Act.put, sA, s0, s1]
    refine sn 20 31 rfl rfl ?_; try simp only [Act.put, sA, s0, s1]
    refine sn 21 32 rfl rfl ?_; try simp only [Act.put, sA, s0, s1]
    refine sn 22 33 rfl rfl ?_; try simp only [Act.put, sA, s0, s1]
    refine sn 23 34 rfl rfl ?_; try simp only [Act.put, sA, s0, s1]
    refine sn 24 35 rfl rfl ?_; try simp only [Act.put, sA, s0, s1]
    refine sn 25 36 rfl rfl ?_; try simp only [Act.put, sA, s0, s1]
    refine sn 26 37 rfl rfl ?_; try simp only [Act.put, sA, s0, s1]
    refine sn 27 38 rfl rfl ?_; try simp only [Act.put, sA, s0, s1]
    refine sn 28 39 rfl rfl ?_; try simp only [Act.put, sA, s0, s1]
    refine sn 29 40 rfl rfl ?_; try simp only [Act.put, sA, s0, s1]
    refine sn 30 41 rfl rfl ?_; try simp only [Act.put, sA, s0, s1]
    refine sn 31 42 rfl rfl ?_; try simp only [Act.put, sA, s0, s1]
    refine sn 32 43 rfl rfl ?_; try simp only [Act.put, sA, s0, s1]
    refine sn 33 44 rfl rfl ?_; try simp only [Act.put, sA, s0, s1]
    refine sn 34 45 rfl rfl ?_; try simp only [Act.put, sA, s0, s1]
    refine sn 35 46 rfl rfl ?_; try simp only [Act.put, sA, s0, s1]
    refine sy 36 47 rfl rfl ?_; try simp only [Act.put, sA, s0, s1]
    refine wpAnyH_done (by kernel_rfl) ?_ _; clear hHeld HB HR H0 CHK; go_wp2; go_ret
    rw [NO.out]
    exact ⟨rfl, PC.out.trans C9.out⟩
   by_cases hp : e.p = f0.p
   rotate_left
   ·
    have NO : Hid (shE es = 2) := Lib.hid (sh_no_path EE.out EF0.out hp)
    have p1' : ((x.p == y0.p) : Bool) = false := by rw [XP.out.1, XP.out.2]; exact strOf_ne hp
    have p2' : ¬ x.p = y0.p := by rw [XP.out.1, XP.out.2]; exact strOf_ne2 hp
    have p3' : ¬ x.p.toList = y0.p.toList := by rw [XP.out.1, XP.out.2]; exact strOf_ne3s hp
    have p4' : ((x.p.toList == y0.p.toList) : Bool) = false := by simpa using p3' 
    refine wp_region_held_drew (S := fun w' => Chg [] wr w') (by kernel_rfl) (Chg.refl [] wr).drew (fun hHeld => ?_)
    refine sy 0 11 rfl rfl ?_; try simp only [Act.put, sA, s0, s1]
    refine sy 1 12 rfl rfl ?_; try simp only [Act.put, sA, s0, s1]
    refine sy 2 13 rfl rfl ?_; try simp only [Act.put, sA, s0, s1]
    refine sy 3 14 rfl rfl ?_ (hy := by (intro w hSw; (try dsimp only at hSw); have hq := HB.out _ hSw; obtain ⟨q0, q1, q2, q3, q4, q5, q6⟩ := hq; go_simp; try with_reducible rfl))
    try simp only [Act.put, sA, s0, s1]
    refine wpAnyH_ready (rs := [4]) (by kernel_rfl) (by simp) ?_; refine AllReadyH.cons rfl (fun K hK => ?_) AllReadyH.nil; replace hK := Lib.hid hK; go_simp
    refine (CHK.out _ hHeld).mono ?_
    rintro r w9 ⟨rfl, hc⟩
    rw [e1]
    have C9 := Lib.hid (hHeld.trans hc)
    clear hc hHeld
    refine hK.out _ _ C9.out (fun hHeld => ?_)
    clear hK K; try simp only [Act.put, sA, s0, s1]
    refine sy 5 16 rfl rfl ?_; try simp only [Act.put, sA, s0, s1]
    refine sy 6 17 rfl rfl ?_; try simp only [Act.put, sA, s0, s1]
    refine sy 7 18 rfl rfl ?_; try simp only [Act.put, sA, s0, s1]
    refine sy 8 19 rfl rfl ?_; try simp only [Act.put, sA, s0, s1]
    refine sy 9 20 rfl rfl ?_; try simp only [Act.put, sA, s0, s1]
    refine sy 10 21 rfl rfl ?_; try simp only [Act.put, sA, s0, s1]
    refine sy 11 22 rfl rfl ?_ (hy := by (intro w hSw; (try dsimp only at hSw); have hq := HB.out _ hSw; obtain ⟨q0, q1, q2, q3, q4, q5, q6⟩ := hq; go_simp; try with_reducible rfl))
    try simp only [Act.put, sA, s0, s1]
    refine sy 12 23 rfl rfl ?_; try simp only [Act.put, sA, s0, s1]
    refine sy 13 24 rfl rfl ?_; try simp only [Act.put, sA, s0, s1]
    refine sy 14 25 rfl rfl ?_; try simp only [Act.put, sA, s0, s1]
    refine sy 15 26 rfl rfl ?_ (hy := by (intro w hSw; (try dsimp only at hSw); have hq := H0.out _ hSw; go_simp; try with_reducible rfl))
    try simp only [Act.put, sA, s0, s1]
    refine sy 16 27 rfl rfl ?_; try simp only [Act.put, sA, s0, s1]
    refine sy 17 28 rfl rfl ?_; try simp only [Act.put, sA, s0, s1]
    refine sy 18 29 rfl rfl ?_; try simp only [Act.put, sA, s0, s1]
    refine sn 19 30 rfl rfl ?_; try simp only [Act.put, sA, s0, s1]
    refine sn 20 31 rfl rfl ?_; try simp only [Act.put, sA, s0, s1]
    refine sn 21 32 rfl rfl ?_; try simp only [Act.put, sA, s0, s1]
    refine sn 22 33 rfl rfl ?_; try simp only [Act.put, sA, s0, s1]
    refine sn 23 34 rfl rfl ?_; try simp only [Act.put, sA, s0, s1]
    refine sn 24 35 rfl rfl ?_; try simp only [Act.put, sA, s0, s1]
    refine sn 25 36 rfl rfl ?_; try simp only [Act.put, sA, s0, s1]
    refine sn 26 37 rfl rfl ?_; try simp only [Act.put, sA, s0, s1]
    refine sn 27 38 rfl rfl ?_; try simp only [Act.put, sA, s0, s1]
    refine sn 28 39 rfl rfl ?_; try simp only [Act.put, sA, s0, s1]
    refine sn 29 40 rfl rfl ?_; try simp only [Act.put, sA, s0, s1]
    refine sn 30 41 rfl rfl ?_; try simp only [Act.put, sA, s0, s1]
    refine sn 31 42 rfl rfl ?_; try simp only [Act.put, sA, s0, s1]
    refine sn 32 43 rfl rfl ?_; try simp only [Act.put, sA, s0, s1]
    refine sn 33 44 rfl rfl ?_; try simp only [Act.put, sA, s0, s1]
    refine sn 34 45 rfl rfl ?_; try simp only [Act.put, sA, s0, s1]
    refine sn 35 46 rfl rfl ?_; try simp only [Act.put, sA, s0, s1]
    refine sy 36 47 rfl rfl ?_; try simp only [Act.put, sA, s0, s1]
    refine wpAnyH_done (by kernel_rfl) ?_ _; clear hHeld HB HR H0 CHK; go_wp2; go_ret
    rw [NO.out]
    exact ⟨rfl, PC.out.trans C9.out⟩
   have HP := Lib.hid hp
   have p1' : ((x.p == y0.p) : Bool) = true := by rw [XP.out.1, XP.out.2, hp]; show ((f0.p.toArray == f0.p.toArray) : Bool) = true; simp
   have p4' : ((x.p.toList == y0.p.toList) : Bool) = true := by rw [XP.out.1, XP.out.2, hp]; simp
   clear hp
   by_cases k0 : k = 0
   ·
    subst k0
    have OT : Hid (ShTo es (0 + 1)) := Lib.hid (shTo_next ST.out EE.out e1 (fun f hf => by rw [EE.out] at hf; cases hf; rfl) (.inl rfl))
    refine wp_region_held_drew (S := fun w' => Chg [] wr w') (by kernel_rfl) (Chg.refl [] wr).drew (fun hHeld => ?_)
    refine sy 0 11 rfl rfl ?_; try simp only [Act.put, sA, s0, s1]
    refine sy 1 12 rfl rfl ?_; try simp only [Act.put, sA, s0, s1]
    refine sy 2 13 rfl rfl ?_; try simp only [Act.put, sA, s0, s1]
    refine sy 3 14 rfl rfl ?_ (hy := by (intro w hSw; (try dsimp only at hSw); have hq := HB.out _ hSw; obtain ⟨q0, q1, q2, q3, q4, q5, q6⟩ := hq; (try simp only [Nat.zero_mul, Nat.add_zero] at q0 q1 q2 q3 q4 q5 q6); go_simp; try with_reducible rfl))
    try simp only [Act.put, sA, s0, s1]
    refine wpAnyH_ready (rs := [4]) (by kernel_rfl) (by simp) ?_; refine AllReadyH.cons rfl (fun K hK => ?_) AllReadyH.nil; replace hK := Lib.hid hK; go_simp
    refine (CHK.out _ hHeld).mono ?_
    rintro r w9 ⟨rfl, hc⟩
    rw [e1]
    have C9 := Lib.hid (hHeld.trans hc)
    clear hc hHeld
    refine hK.out _ _ C9.out (fun hHeld => ?_)
    clear hK K; try simp only [Act.put, sA, s0, s1]
    refine sy 5 16 rfl rfl ?_; try simp only [Act.put, sA, s0, s1]
    refine sy 6 17 rfl rfl ?_; try simp only [Act.put, sA, s0, s1]
    refine sy 7 18 rfl rfl ?_; try simp only [Act.put, sA, s0, s1]
    refine sy 8 19 rfl rfl ?_; try simp only [Act.put, sA, s0, s1]
    refine sy 9 20 rfl rfl ?_; try simp only [Act.put, sA, s0, s1]
    refine sy 10 21 rfl rfl ?_; try simp only [Act.put, sA, s0, s1]
    refine sy 11 22 rfl rfl ?_ (hy := by (intro w hSw; (try dsimp only at hSw); have hq := HB.out _ hSw; obtain ⟨q0, q1, q2, q3, q4, q5, q6⟩ := hq; (try simp only [Nat.zero_mul, Nat.add_zero] at q0 q1 q2 q3 q4 q5 q6); go_simp; try with_reducible rfl))
    try simp only [Act.put, sA, s0, s1]
    refine sy 12 23 rfl rfl ?_; try simp only [Act.put, sA, s0, s1]
    refine sy 13 24 rfl rfl ?_; try simp only [Act.put, sA, s0, s1]
    refine sy 14 25 rfl rfl ?_; try simp only [Act.put, sA, s0, s1]
    refine sy 15 26 rfl rfl ?_ (hy := by (intro w hSw; (try dsimp only at hSw); have hq := H0.out _ hSw; go_simp; try with_reducible rfl))
    try simp only [Act.put, sA, s0, s1]
    refine sy 16 27 rfl rfl ?_; try simp only [Act.put, sA, s0, s1]
    refine sy 17 28 rfl rfl ?_; try simp only [Act.put, sA, s0, s1]
    refine sy 18 29 rfl rfl ?_; try simp only [Act.put, sA, s0, s1]
    refine sy 19 30 rfl rfl ?_; try simp only [Act.put, sA, s0, s1]
    refine sy 20 31 rfl rfl ?_; try simp only [Act.put, sA, s0, s1]
    refine sy 21 32 rfl rfl ?_; try simp only [Act.put, sA, s0, s1]
    refine sn 22 33 rfl rfl ?_; try simp only [Act.put, sA, s0, s1]
    refine sn 23 34 rfl rfl ?_; try simp only [Act.put, sA, s0, s1]
    refine sn 24 35 rfl rfl ?_; try simp only [Act.put, sA, s0, s1]
    refine sn 25 36 rfl rfl ?_; try simp only [Act.put, sA, s0, s1]
    refine sn 26 37 rfl rfl ?_; try simp only [Act.put, sA, s0, s1]
    refine sn 27 38 rfl rfl ?_; try simp only [Act.put, sA, s0, s1]
    refine sn 28 39 rfl rfl ?_; try simp only [Act.put, sA, s0, s1]
    refine sn 29 40 rfl rfl ?_; try simp only [Act.put, sA, s0, s1]
    refine sn 30 41 rfl rfl ?_; try simp only [Act.put, sA, s0, s1]
    refine sn 31 42 rfl rfl ?_; try simp only [Act.put, sA, s0, s1]
    refine sn 32 43 rfl rfl ?_; try simp only [Act.put, sA, s0, s1]
    refine sn 33 44 rfl rfl ?_; try simp only [Act.put, sA, s0, s1]
    refine sn 34 45 rfl rfl ?_; try simp only [Act.put, sA, s0, s1]
    refine sy 35 46 rfl rfl ?_; try simp only [Act.put, sA, s0, s1]
    refine sy 36 47 rfl rfl ?_; try simp only [Act.put, sA, s0, s1]
    refine wpAnyH_done (by kernel_rfl) ?_ _; clear hHeld HB HR H0 CHK
    have PD := Lib.hid (PC.out.trans C9.out)
    go_wp2
    go_loopw [4] (fun v4 wr => ∃ (j : Nat), j ≤ xs.length ∧ v4 = .int .i64 j ∧ Hid (∀ f ∈ es.take j, aheadP e f = false) ∧ Hid (Chg [] w wr)) (fun v4 _ => xs.length - (RowKit.intOf v4).toNat)
    case atStart => exact ⟨0, Nat.zero_le _, rfl, Lib.hid (by simp), PD⟩
    case round =>
     obtain ⟨j, hj, rfl, NB, PD⟩ := hrel
     have u0 : (0 : Int) ≤ (j : Int) := by omega
     by_cases hjl : j < xs.length
     ·
      have u1 : (j : Int) < (xs.length : Int) := by omega
      have u3 : IntKind.i64.wrap ((j : Int) + 1) = (j : Int) + 1 := IntWalk.i64_in _ (by have := HN.out; omega)
      obtain ⟨z, d, ez, ed, rz⟩ := HX.out.at_ hjl
      have EZ := Lib.hid ez
      have ED := Lib.hid ed
      have RZ := Lib.hid rz
      have ESZ := Lib.hid (HS.out d (List.mem_of_getElem? ed))
      clear ez ed rz
      go_upto_region 9 with fail
      have HB : Hid (∀ w', Chg [] wr w' → (w'.cell? ⟨g3, o3 + 0 * 7, none⟩ = some (.int .i64 x.n) ∧ w'.cell? ⟨g3, o3 + 0 * 7 + 1, none⟩ = some (.int .i64 x.s) ∧ w'.cell? ⟨g3, o3 + 0 * 7 + 2, none⟩ = some (.string x.p) ∧ w'.cell? ⟨g3, o3 + 0 * 7 + 3, none⟩ = some (.int .i64 x.k) ∧ w'.cell? ⟨g3, o3 + 0 * 7 + 4, none⟩ = some (.int .i64 x.m) ∧ w'.cell? ⟨g3, o3 + 0 * 7 + 5, none⟩ = some (.slice x.A x.l x.c) ∧ w'.cell? ⟨g3, o3 + 0 * 7 + 6, none⟩ = some (.slice x.B x.bl x.bc))) := Lib.hid (fun w' hc => evCells (HA.out.chg (PD.out.trans hc) (by simp)) EX.out)
      have HZ : Hid (∀ w', Chg [] wr w' → (w'.cell? ⟨g3, o3 + j * 7, none⟩ = some (.int .i64 z.n) ∧ w'.cell? ⟨g3, o3 + j * 7 + 1, none⟩ = some (.int .i64 z.s) ∧ w'.cell? ⟨g3, o3 + j * 7 + 2, none⟩ = some (.string z.p) ∧ w'.cell? ⟨g3, o3 + j * 7 + 3, none⟩ = some (.int .i64 z.k) ∧ w'.cell? ⟨g3, o3 + j * 7 + 4, none⟩ = some (.int .i64 z.m) ∧ w'.cell? ⟨g3, o3 + j * 7 + 5, none⟩ = some (.slice z.A z.l z.c) ∧ w'.cell? ⟨g3, o3 + j * 7 + 6, none⟩ = some (.slice z.B z.bl z.bc))) := Lib.hid (fun w' hc => evCells (HA.out.chg (PD.out.trans hc) (by simp)) EZ.out)
      have AHD : Hid (∀ w', Chg [] wr w' → Calls Tryz.prog 120 #[.agg #[.int .i64 x.n, .int .i64 x.s, .string x.p, .int .i64 x.k, .int .i64 x.m, .slice x.A x.l x.c, .slice x.B x.bl x.bc], .agg #[.int .i64 z.n, .int .i64 z.s, .string z.p, .int .i64 z.k, .int .i64 z.m, .slice z.A z.l z.c, .slice z.B z.bl z.bc]] w' fun r w2 => r = .returned (.bool (aheadP e d)) ∧ Chg [] w' w2) := Lib.hid (fun w' hc => veahead_any w' x z e d (RX1.out.chg (PD.out.trans hc)) (RZ.out.chg (PD.out.trans hc)) ES1.out ESZ.out)
      refine wp_region_held_drew (S := fun w' => Chg [] wr w') (by kernel_rfl) (Chg.refl [] wr).drew (fun hHeld => ?_)
      refine sy 0 54 rfl rfl ?_; try simp only [Act.put, sA, s0, s1]
      refine sy 1 55 rfl rfl ?_; try simp only [Act.put, sA, s0, s1]
      refine sy 2 56 rfl rfl ?_; try simp only [Act.put, sA, s0, s1]
      refine sy 3 57 rfl rfl ?_ (hy := by (intro w hSw; (try dsimp only at hSw); have hq := HB.out _ hSw; obtain ⟨q0, q1, q2, q3, q4, q5, q6⟩ := hq; (try simp only [Nat.zero_mul, Nat.add_zero] at q0 q1 q2 q3 q4 q5 q6); go_simp; try with_reducible rfl))
      try simp only [Act.put, sA, s0, s1]
      refine sy 4 58 rfl rfl ?_; try simp only [Act.put, sA, s0, s1]
      refine sy 5 59 rfl rfl ?_; try simp only [Act.put, sA, s0, s1]
      refine sy 6 60 rfl rfl ?_; try simp only [Act.put, sA, s0, s1]
      refine sy 7 61 rfl rfl ?_ (hy := by (intro w hSw; (try dsimp only at hSw); have hq := HZ.out _ hSw; obtain ⟨q0, q1, q2, q3, q4, q5, q6⟩ := hq; go_simp; try with_reducible rfl))
      try simp only [Act.put, sA, s0, s1]
      refine wpAnyH_ready (rs := [8]) (by kernel_rfl) (by simp) ?_; refine AllReadyH.cons rfl (fun K hK => ?_) AllReadyH.nil; replace hK := Lib.hid hK; go_simp
      refine (AHD.out _ hHeld).mono ?_
      rintro r w7 ⟨rfl, hc⟩
      have C7 := Lib.hid (hHeld.trans hc)
      clear hc hHeld
      refine hK.out _ _ C7.out (fun hHeld => ?_)
      clear hK K; try simp only [Act.put, sA, s0, s1]
      refine wpAnyH_done (by kernel_rfl) ?_ _; clear hHeld HB HZ AHD
      have RC9 := Lib.hid (PD.out.trans C7.out)
      rcases ha : aheadP e d with _ | _
      ·
       have NB1 : Hid (∀ f ∈ es.take (j + 1), aheadP e f = false) := Lib.hid (fun f hf => by
        rw [List.take_add_one, ED.out] at hf
        rcases List.mem_append.1 hf with q | q
        ·
         exact NB.out f q
        ·
         simp at q; subst q; exact ha)
       clear ha NB; go_wp2; go_round
       case rel => exact ⟨j + 1, by omega, by go_num, NB1, RC9⟩
       case measure => simp [RowKit.intOf]; omega
      ·
       have NO : Hid (shE es = 2) := Lib.hid (sh_no_ahead EE.out (List.any_eq_true.2 ⟨d, List.mem_of_getElem? ED.out, ha⟩))
       clear ha; go_wp2; go_ret
       rw [NO.out]
       exact ⟨rfl, RC9.out⟩
     ·
      obtain rfl : j = xs.length := by omega
      have u1 : ¬ (xs.length : Int) < (xs.length : Int) := by omega
      have NA1 : Hid (∀ f ∈ es.take (0 + 1), es.any (fun x => aheadP f x) = false) := Lib.hid (fun f hf => by
       rw [List.take_add_one, EE.out] at hf
       rcases List.mem_append.1 hf with q | q
       ·
        exact NA.out f q
       ·
        simp at q
        subst q
        refine List.any_eq_false.2 (fun y hy => ?_)
        have := NB.out y (by rw [HX.out.1, List.take_length]; exact hy)
        rw [this]
        decide)
      clear NA NB; go_wp2; go_round
      case rel => exact ⟨0 + 1, by omega, by go_num, OT, NA1, PD⟩
      case measure => simp [RowKit.intOf]; omega
   obtain ⟨y, f, ey, ef, ry⟩ := HX.out.at_ (show k - 1 < xs.length by omega)
   have EY := Lib.hid ey
   have EF := Lib.hid ef
   have YD : Hid (y.n = f.n ∧ y.s = f.s ∧ x.n = e.n ∧ x.s = e.s) := Lib.hid ⟨ry.n, ry.s, RX1.out.n, RX1.out.s⟩
   clear ey ef ry
   have g1 : (0 : Int) < (k : Int) := by omega
   have g2 : 0 < k := by omega
   have g3' : decide ((0 : Int) < (k : Int)) = true := by simp; omega
   have g4 : decide (0 < k) = true := by simp; omega
   have w1' : IntKind.i64.wrap ((k : Int) - 1) = ((k - 1 : Nat) : Int) := by rw [IntWalk.i64_in _ (by have := HN.out; omega)]; omega
   have g5 : (0 : Int) ≤ ((k - 1 : Nat) : Int) := by omega
   have g6' : ((k - 1 : Nat) : Int) < (xs.length : Int) := by omega
   have g7 : k - 1 < xs.length := by omega
   by_cases hl : LtD y.n y.s x.n x.s
   rotate_left
   ·
    have NO : Hid (shE es = 2) := Lib.hid (sh_no_lt EE.out EF.out (by omega) (fun q => hl (by rw [YD.out.1, YD.out.2.1, YD.out.2.2.1, YD.out.2.2.2]; exact q)))
    have dl := decide_eq_false hl
    clear hl
    refine wp_region_held_drew (S := fun w' => Chg [] wr w') (by kernel_rfl) (Chg.refl [] wr).drew (fun hHeld => ?_)
    refine sy 0 11 rfl rfl ?_; try simp only [Act.put, sA, s0, s1]
    refine sy 1 12 rfl rfl ?_; try simp only [Act.put, sA, s0, s1]
    refine sy 2 13 rfl rfl ?_; try simp only [Act.put, sA, s0, s1]
    refine sy 3 14 rfl rfl ?_ (hy := by (intro w hSw; (try dsimp only at hSw); have hq := HB.out _ hSw; obtain ⟨q0, q1, q2, q3, q4, q5, q6⟩ := hq; go_simp; try with_reducible rfl))
    try simp only [Act.put, sA, s0, s1]
    refine wpAnyH_ready (rs := [4]) (by kernel_rfl) (by simp) ?_; refine AllReadyH.cons rfl (fun K hK => ?_) AllReadyH.nil; replace hK := Lib.hid hK; go_simp
    refine (CHK.out _ hHeld).mono ?_
    rintro r w9 ⟨rfl, hc⟩
    rw [e1]
    have C9 := Lib.hid (hHeld.trans hc)
    clear hc hHeld
    refine hK.out _ _ C9.out (fun hHeld => ?_)
    clear hK K; try simp only [Act.put, sA, s0, s1]
    refine sy 5 16 rfl rfl ?_; try simp only [Act.put, sA, s0, s1]
    refine sy 6 17 rfl rfl ?_; try simp only [Act.put, sA, s0, s1]
    refine sy 7 18 rfl rfl ?_; try simp only [Act.put, sA, s0, s1]
    refine sy 8 19 rfl rfl ?_; try simp only [Act.put, sA, s0, s1]
    refine sy 9 20 rfl rfl ?_; try simp only [Act.put, sA, s0, s1]
    refine sy 10 21 rfl rfl ?_; try simp only [Act.put, sA, s0, s1]
    refine sy 11 22 rfl rfl ?_ (hy := by (intro w hSw; (try dsimp only at hSw); have hq := HB.out _ hSw; obtain ⟨q0, q1, q2, q3, q4, q5, q6⟩ := hq; go_simp; try with_reducible rfl))
    try simp only [Act.put, sA, s0, s1]
    refine sy 12 23 rfl rfl ?_; try simp only [Act.put, sA, s0, s1]
    refine sy 13 24 rfl rfl ?_; try simp only [Act.put, sA, s0, s1]
    refine sy 14 25 rfl rfl ?_; try simp only [Act.put, sA, s0, s1]
    refine sy 15 26 rfl rfl ?_ (hy := by (intro w hSw; (try dsimp only at hSw); have hq := H0.out _ hSw; go_simp; try with_reducible rfl))
    try simp only [Act.put, sA, s0, s1]
    refine sy 16 27 rfl rfl ?_; try simp only [Act.put, sA, s0, s1]
    refine sy 17 28 rfl rfl ?_; try simp only [Act.put, sA, s0, s1]
    refine sy 18 29 rfl rfl ?_; try simp only [Act.put, sA, s0, s1]
    refine sy 19 30 rfl rfl ?_; try simp only [Act.put, sA, s0, s1]
    refine sy 20 31 rfl rfl ?_; try simp only [Act.put, sA, s0, s1]
    refine sy 21 32 rfl rfl ?_; try simp only [Act.put, sA, s0, s1]
    refine sy 22 33 rfl rfl ?_; try simp only [Act.put, sA, s0, s1]
    refine sy 23 34 rfl rfl ?_; try simp only [Act.put, sA, s0, s1]
    refine sy 24 35 rfl rfl ?_; try simp only [Act.put, sA, s0, s1]
    refine sy 25 36 rfl rfl ?_; try simp only [Act.put, sA, s0, s1]
    refine sy 26 37 rfl rfl ?_; try simp only [Act.put, sA, s0, s1]
    refine sy 27 38 rfl rfl ?_ (hy := by (intro w hSw; (try dsimp only at hSw); have hq := HR.out _ hSw y EY.out; obtain ⟨p0, p1⟩ := hq; go_simp; try with_reducible rfl))
    try simp only [Act.put, sA, s0, s1]
    refine sy 28 39 rfl rfl ?_; try simp only [Act.put, sA, s0, s1]
    refine sy 29 40 rfl rfl ?_; try simp only [Act.put, sA, s0, s1]
    refine sy 30 41 rfl rfl ?_; try simp only [Act.put, sA, s0, s1]
    refine sy 31 42 rfl rfl ?_; try simp only [Act.put, sA, s0, s1]
    refine sy 32 43 rfl rfl ?_ (hy := by (intro w hSw; (try dsimp only at hSw); have hq := HB.out _ hSw; obtain ⟨q0, q1, q2, q3, q4, q5, q6⟩ := hq; go_simp; try with_reducible rfl))
    try simp only [Act.put, sA, s0, s1]
    refine wpAnyH_ready (rs := [33]) (by kernel_rfl) (by simp) ?_; refine AllReadyH.cons rfl (fun K hK => ?_) AllReadyH.nil; replace hK := Lib.hid hK; go_simp
    refine (hless_any _ _ _ _ _).mono ?_
    rintro r w8 ⟨rfl, hc⟩
    rw [dl]
    have C8 := Lib.hid (hHeld.trans hc)
    clear hc hHeld
    refine hK.out _ _ C8.out (fun hHeld => ?_)
    clear hK K; try simp only [Act.put, sA, s0, s1]
    refine sy 34 45 rfl rfl ?_; try simp only [Act.put, sA, s0, s1]
    refine sy 35 46 rfl rfl ?_; try simp only [Act.put, sA, s0, s1]
    refine sy 36 47 rfl rfl ?_; try simp only [Act.put, sA, s0, s1]
    refine wpAnyH_done (by kernel_rfl) ?_ _; clear hHeld HB HR H0 CHK; go_wp2; go_ret
    rw [NO.out]
    exact ⟨rfl, PC.out.trans C8.out⟩
   have OT : Hid (ShTo es (k + 1)) := Lib.hid (shTo_next ST.out EE.out e1 (fun d hd => by rw [EF0.out] at hd; cases hd; exact HP.out) (.inr (fun d hd => by rw [EF.out] at hd; cases hd; unfold LtEv; rw [← YD.out.1, ← YD.out.2.1, ← YD.out.2.2.1, ← YD.out.2.2.2]; exact hl)))
   have dl := decide_eq_true hl
   clear hl
   refine wp_region_held_drew (S := fun w' => Chg [] wr w') (by kernel_rfl) (Chg.refl [] wr).drew (fun hHeld => ?_)
   refine sy 0 11 rfl rfl ?_; try simp only [Act.put, sA, s0, s1]
   refine sy 1 12 rfl rfl ?_; try simp only [Act.put, sA, s0, s1]
   refine sy 2 13 rfl rfl ?_; try simp only [Act.put, sA, s0, s1]
   refine sy 3 14 rfl rfl ?_ (hy := by (intro w hSw; (try dsimp only at hSw); have hq := HB.out _ hSw; obtain ⟨q0, q1, q2, q3, q4, q5, q6⟩ := hq; go_simp; try with_reducible rfl))
   try simp only [Act.put, sA, s0, s1]
   refine wpAnyH_ready (rs := [4]) (by kernel_rfl) (by simp) ?_; refine AllReadyH.cons rfl (fun K hK => ?_) AllReadyH.nil; replace hK := Lib.hid hK; go_simp
   refine (CHK.out _ hHeld).mono ?_
   rintro r w9 ⟨rfl, hc⟩
   rw [e1]
   have C9 := Lib.hid (hHeld.trans hc)
   clear hc hHeld
   refine hK.out _ _ C9.out (fun hHeld => ?_)
   clear hK K; try simp only [Act.put, sA, s0, s1]
   refine sy 5 16 rfl rfl ?_; try simp only [Act.put, sA, s0, s1]
   refine sy 6 17 rfl rfl ?_; try simp only [Act.put, sA, s0, s1]
   refine sy 7 18 rfl rfl ?_; try simp only [Act.put, sA, s0, s1]
   refine sy 8 19 rfl rfl ?_; try simp only [Act.put, sA, s0, s1]
   refine sy 9 20 rfl rfl ?_; try simp only [Act.put, sA, s0, s1]
   refine sy 10 21 rfl rfl ?_; try simp only [Act.put, sA, s0, s1]
   refine sy 11 22 rfl rfl ?_ (hy := by (intro w hSw; (try dsimp only at hSw); have hq := HB.out _ hSw; obtain ⟨q0, q1, q2, q3, q4, q5, q6⟩ := hq; go_simp; try with_reducible rfl))
   try simp only [Act.put, sA, s0, s1]
   refine sy 12 23 rfl rfl ?_; try simp only [Act.put, sA, s0, s1]
   refine sy 13 24 rfl rfl ?_; try simp only [Act.put, sA, s0, s1]
   refine sy 14 25 rfl rfl ?_; try simp only [Act.put, sA, s0, s1]
   refine sy 15 26 rfl rfl ?_ (hy := by (intro w hSw; (try dsimp only at hSw); have hq := H0.out _ hSw; go_simp; try with_reducible rfl))
   try simp only [Act.put, sA, s0, s1]
   refine sy 16 27 rfl rfl ?_; try simp only [Act.put, sA, s0, s1]
   refine sy 17 28 rfl rfl ?_; try simp only [Act.put, sA, s0, s1]
   refine sy 18 29 rfl rfl ?_; try simp only [Act.put, sA, s0, s1]
   refine sy 19 30 rfl rfl ?_; try simp only [Act.put, sA, s0, s1]
   refine sy 20 31 rfl rfl ?_; try simp only [Act.put, sA, s0, s1]
   refine sy 21 32 rfl rfl ?_; try simp only [Act.put, sA, s0, s1]
   refine sy 22 33 rfl rfl ?_; try simp only [Act.put, sA, s0, s1]
   refine sy 23 34 rfl rfl ?_; try simp only [Act.put, sA, s0, s1]
   refine sy 24 35 rfl rfl ?_; try simp only [Act.put, sA, s0, s1]
   refine sy 25 36 rfl rfl ?_; try simp only [Act.put, sA, s0, s1]
   refine sy 26 37 rfl rfl ?_; try simp only [Act.put, sA, s0, s1]
   refine sy 27 38 rfl rfl ?_ (hy := by (intro w hSw; (try dsimp only at hSw); have hq := HR.out _ hSw y EY.out; obtain ⟨p0, p1⟩ := hq; go_simp; try with_reducible rfl))
   try simp only [Act.put, sA, s0, s1]
   refine sy 28 39 rfl rfl ?_; try simp only [Act.put, sA, s0, s1]
   refine sy 29 40 rfl rfl ?_; try simp only [Act.put, sA, s0, s1]
   refine sy 30 41 rfl rfl ?_; try simp only [Act.put, sA, s0, s1]
   refine sy 31 42 rfl rfl ?_; try simp only [Act.put, sA, s0, s1]
   refine sy 32 43 rfl rfl ?_ (hy := by (intro w hSw; (try dsimp only at hSw); have hq := HB.out _ hSw; obtain ⟨q0, q1, q2, q3, q4, q5, q6⟩ := hq; go_simp; try with_reducible rfl))
   try simp only [Act.put, sA, s0, s1]
   refine wpAnyH_ready (rs := [33]) (by kernel_rfl) (by simp) ?_; refine AllReadyH.cons rfl (fun K hK => ?_) AllReadyH.nil; replace hK := Lib.hid hK; go_simp
   refine (hless_any _ _ _ _ _).mono ?_
   rintro r w8 ⟨rfl, hc⟩
   rw [dl]
   have C8 := Lib.hid (hHeld.trans hc)
   clear hc hHeld
   refine hK.out _ _ C8.out (fun hHeld => ?_)
   clear hK K; try simp only [Act.put, sA, s0, s1]
   refine sy 34 45 rfl rfl ?_; try simp only [Act.put, sA, s0, s1]
   refine sy 35 46 rfl rfl ?_; try simp only [Act.put, sA, s0, s1]
   refine sy 36 47 rfl rfl ?_; try simp only [Act.put, sA, s0, s1]
   refine wpAnyH_done (by kernel_rfl) ?_ _; clear hHeld HB HR H0 CHK
   have PD := Lib.hid (PC.out.trans C8.out)
   go_wp2
   go_loopw [4] (fun v4 wr => ∃ (j : Nat), j ≤ xs.length ∧ v4 = .int .i64 j ∧ Hid (∀ f ∈ es.take j, aheadP e f = false) ∧ Hid (Chg [] w wr)) (fun v4 _ => xs.length - (RowKit.intOf v4).toNat)
   case atStart => exact ⟨0, Nat.zero_le _, rfl, Lib.hid (by simp), PD⟩
   case round =>
    obtain ⟨j, hj, rfl, NB, PD⟩ := hrel
    have u0 : (0 : Int) ≤ (j : Int) := by omega
    by_cases hjl : j < xs.length
    ·
     have u1 : (j : Int) < (xs.length : Int) := by omega
     have u3 : IntKind.i64.wrap ((j : Int) + 1) = (j : Int) + 1 := IntWalk.i64_in _ (by have := HN.out; omega)
     obtain ⟨z, d, ez, ed, rz⟩ := HX.out.at_ hjl
     have EZ := Lib.hid ez
     have ED := Lib.hid ed
     have RZ := Lib.hid rz
     have ESZ := Lib.hid (HS.out d (List.mem_of_getElem? ed))
     clear ez ed rz
     go_upto_region 9 with fail
     have HB : Hid (∀ w', Chg [] wr w' → (w'.cell? ⟨g3, o3 + k * 7, none⟩ = some (.int .i64 x.n) ∧ w'.cell? ⟨g3, o3 + k * 7 + 1, none⟩ = some (.int .i64 x.s) ∧ w'.cell? ⟨g3, o3 + k * 7 + 2, none⟩ = some (.string x.p) ∧ w'.cell? ⟨g3, o3 + k * 7 + 3, none⟩ = some (.int .i64 x.k) ∧ w'.cell? ⟨g3, o3 + k * 7 + 4, none⟩ = some (.int .i64 x.m) ∧ w'.cell? ⟨g3, o3 + k * 7 + 5, none⟩ = some (.slice x.A x.l x.c) ∧ w'.cell? ⟨g3, o3 + k * 7 + 6, none⟩ = some (.slice x.B x.bl x.bc))) := Lib.hid (fun w' hc => evCells (HA.out.chg (PD.out.trans hc) (by simp)) EX.out)
     have HZ : Hid (∀ w', Chg [] wr w' → (w'.cell? ⟨g3, o3 + j * 7, none⟩ = some (.int .i64 z.n) ∧ w'.cell? ⟨g3, o3 + j * 7 + 1, none⟩ = some (.int .i64 z.s) ∧ w'.cell? ⟨g3, o3 + j * 7 + 2, none⟩ = some (.string z.p) ∧ w'.cell? ⟨g3, o3 + j * 7 + 3, none⟩ = some (.int .i64 z.k) ∧ w'.cell? ⟨g3, o3 + j * 7 + 4, none⟩ = some (.int .i64 z.m) ∧ w'.cell? ⟨g3, o3 + j * 7 + 5, none⟩ = some (.slice z.A z.l z.c) ∧ w'.cell? ⟨g3, o3 + j * 7 + 6, none⟩ = some (.slice z.B z.bl z.bc))) := Lib.hid (fun w' hc => evCells (HA.out.chg (PD.out.trans hc) (by simp)) EZ.out)
     have AHD : Hid (∀ w', Chg [] wr w' → Calls Tryz.prog 120 #[.agg #[.int .i64 x.n, .int .i64 x.s, .string x.p, .int .i64 x.k, .int .i64 x.m, .slice x.A x.l x.c, .slice x.B x.bl x.bc], .agg #[.int .i64 z.n, .int .i64 z.s, .string z.p, .int .i64 z.k, .int .i64 z.m, .slice z.A z.l z.c, .slice z.B z.bl z.bc]] w' fun r w2 => r = .returned (.bool (aheadP e d)) ∧ Chg [] w' w2) := Lib.hid (fun w' hc => veahead_any w' x z e d (RX1.out.chg (PD.out.trans hc)) (RZ.out.chg (PD.out.trans hc)) ES1.out ESZ.out)
     refine wp_region_held_drew (S := fun w' => Chg [] wr w') (by kernel_rfl) (Chg.refl [] wr).drew (fun hHeld => ?_)
     refine sy 0 54 rfl rfl ?_; try simp only [Act.put, sA, s0, s1]
     refine sy 1 55 rfl rfl ?_; try simp only [Act.put, sA, s0, s1]
     refine sy 2 56 rfl rfl ?_; try simp only [Act.put, sA, s0, s1]
     refine sy 3 57 rfl rfl ?_ (hy := by (intro w hSw; (try dsimp only at hSw); have hq := HB.out _ hSw; obtain ⟨q0, q1, q2, q3, q4, q5, q6⟩ := hq; go_simp; try with_reducible rfl))
     try simp only [Act.put, sA, s0, s1]
     refine sy 4 58 rfl rfl ?_; try simp only [Act.put, sA, s0, s1]
     refine sy 5 59 rfl rfl ?_; try simp only [Act.put, sA, s0, s1]
     refine sy 6 60 rfl rfl ?_; try simp only [Act.put, sA, s0, s1]
     refine sy 7 61 rfl rfl ?_ (hy := by (intro w hSw; (try dsimp only at hSw); have hq := HZ.out _ hSw; obtain ⟨q0, q1, q2, q3, q4, q5, q6⟩ := hq; go_simp; try with_reducible rfl))
     try simp only [Act.put, sA, s0, s1]
     refine wpAnyH_ready (rs := [8]) (by kernel_rfl) (by simp) ?_; refine AllReadyH.cons rfl (fun K hK => ?_) AllReadyH.nil; replace hK := Lib.hid hK; go_simp
     refine (AHD.out _ hHeld).mono ?_
     rintro r w7 ⟨rfl, hc⟩
     have C7 := Lib.hid (hHeld.trans hc)
     clear hc hHeld
     refine hK.out _ _ C7.out (fun hHeld => ?_)
     clear hK K; try simp only [Act.put, sA, s0, s1]
     refine wpAnyH_done (by kernel_rfl) ?_ _; clear hHeld HB HZ AHD
     have RC9 := Lib.hid (PD.out.trans C7.out)
     rcases ha : aheadP e d with _ | _
     ·
      have NB1 : Hid (∀ f ∈ es.take (j + 1), aheadP e f = false) := Lib.hid (fun f hf => by
       rw [List.take_add_one, ED.out] at hf
       rcases List.mem_append.1 hf with q | q
       ·
        exact NB.out f q
       ·
        simp at q; subst q; exact ha)
      clear ha NB; go_wp2; go_round
      case rel => exact ⟨j + 1, by omega, by go_num, NB1, RC9⟩
      case measure => simp [RowKit.intOf]; omega
     ·
      have NO : Hid (shE es = 2) := Lib.hid (sh_no_ahead EE.out (List.any_eq_true.2 ⟨d, List.mem_of_getElem? ED.out, ha⟩))
      clear ha; go_wp2; go_ret
      rw [NO.out]
      exact ⟨rfl, RC9.out⟩
    ·
     obtain rfl : j = xs.length := by omega
     have u1 : ¬ (xs.length : Int) < (xs.length : Int) := by omega
     have NA1 : Hid (∀ f ∈ es.take (k + 1), es.any (fun x => aheadP f x) = false) := Lib.hid (fun f hf => by
      rw [List.take_add_one, EE.out] at hf
      rcases List.mem_append.1 hf with q | q
      ·
       exact NA.out f q
      ·
       simp at q
       subst q
       refine List.any_eq_false.2 (fun y hy => ?_)
       have := NB.out y (by rw [HX.out.1, List.take_length]; exact hy)
       rw [this]
       decide)
     clear NA NB; go_wp2; go_round
     case rel => exact ⟨k + 1, by omega, by go_num, OT, NA1, PD⟩
     case measure => simp [RowKit.intOf]; omega
  ·
   obtain rfl : k = xs.length := by omega
   have j1 : ¬ (xs.length : Int) < (xs.length : Int) := by omega
   have OK : Hid (shE es = 0) := Lib.hid (sh_done (by rw [← HX.out.1]; exact ST.out) (by
    have := NA.out
    rw [HX.out.1, List.take_length] at this
    exact this))
   clear ST NA; go_wp2; go_ret
   rw [OK.out]
   exact ⟨rfl, PC.out⟩
end
section
open Go.RowKit
set_option maxRecDepth 100000 in
set_option maxHeartbeats 4000000 in
theorem qhless_any (w : World) (a b : List UInt8) (ha : a.length ≤ 10000000) (hb : b.length ≤ 10000000) :
  Calls Tryz.prog 51 #[.string (strOf a), .string (strOf b)] w fun e w' => e = .returned (.bool (lessL a b)) ∧ Chg [] w w' := by
 have S1 := Lib.hid (fun w => qcut_any w a ha)
 have S2 := Lib.hid (fun w => qcut_any w b hb)
 have L1 := Lib.hid (show (cutL a).length ≤ 100000000 by have := cutA_len a []; show (cutA [] a).length ≤ _; omega)
 have L2 := Lib.hid (show (cutL b).length ≤ 100000000 by have := cutA_len b []; show (cutA [] b).length ≤ _; omega)
 unfold lessL
 generalize cutL a = xs at *
 generalize cutL b = ys at *
 obtain ⟨R, hR⟩ : ∃ R, cmpT xs ys = R := ⟨_, rfl⟩
 rw [hR]
 have HR := Lib.hid hR
 clear hR
 go_enter Tryz.func51, Tryz.ntmps51
 go_wp2_with fail
 refine (S1.out _).mono ?_
 rintro e w1 ⟨A, c, rfl, o1, _, hc1⟩
 have O1 := Lib.hid o1
 have C1 := Lib.hid hc1
 clear o1 hc1; go_wp2_with fail
 refine (S2.out _).mono ?_
 rintro e w2 ⟨B, d, rfl, o2, _, hc2⟩
 have HA := Lib.hid (O1.out.chg hc2 (by simp)).reads
 have HB := Lib.hid o2.reads
 have C2 := Lib.hid (C1.out.trans hc2)
 clear o2 hc2
 have hx := L1.out
 have hy := L2.out
 go_wp2
 go_loopw [7] (fun v7 wr => ∃ k : Nat, k ≤ xs.length ∧ k ≤ ys.length ∧ v7 = .int .i64 (k : Int) ∧ Hid (cmpT (xs.drop k) (ys.drop k) = R) ∧ Hid (Chg [] w2 wr)) (fun v7 _ => xs.length - (RowKit.intOf v7).toNat)
 case atStart => exact ⟨0, Nat.zero_le _, Nat.zero_le _, rfl, HR, Chg.refl _ _⟩
 case round =>
  obtain ⟨k, hk, hk2, rfl, HC, HI⟩ := hrel
  have k1 : IntKind.i64.wrap ((k : Int) + 1) = (k : Int) + 1 := IntWalk.i64_in _ (by omega)
  have i0 : (0 : Int) ≤ (k : Int) := by omega
  by_cases hlt : k < xs.length
  ·
   have i1 : (k : Int) < (xs.length : Int) := by omega
   by_cases hlt2 : k < ys.length
   ·
    have i2 : (k : Int) < (ys.length : Int) := by omega
    obtain ⟨g, o, eA, _⟩ := HA.out.line (by omega)
    subst eA
    obtain ⟨g2, o2, eB, _⟩ := HB.out.line (by omega)
    subst eB
    have ex := List.getElem?_eq_getElem hlt
    have z := textCells (HA.out.chg HI.out (by simp)) ex
    have ey := List.getElem?_eq_getElem hlt2
    have z2 := textCells (HB.out.chg HI.out (by simp)) ey
    have HT := Lib.hid (cmpT_at xs ys k hlt hlt2)
    generalize xs[k] = x at *
    generalize ys[k] = y at *
    clear ex ey
    by_cases hxy : x = y
    ·
     subst hxy
     have HQ := Lib.hid (HC.out.symm.trans (HT.out.trans (if_pos (cb_self x))))
     have h1 : (x == x) = true := by simp
     go_wp2
     go_quiet (fail)
     go_wp2
     exact ⟨⟨k + 1, by omega, by omega, by simp, Lib.hid HQ.out.symm, Lib.hid (HI.out.drewN _)⟩, by simp [RowKit.intOf]; omega⟩
    ·
     have hcb : ¬ Lib.compareBytes x y = 0 := fun e => hxy (cb_zero x y e)
     have HQ := Lib.hid (HC.out.symm.trans (HT.out.trans (if_neg hcb)))
     have h1 : (x == y) = false := by simpa using hxy
     have h2 := str_ne hxy
     have HL := Lib.hid (cb_less x y)
     clear hcb; go_wp2
     go_quiet (fail)
     go_wp2
     go_quiet (fail)
     go_wp2; go_ret
     exact ⟨congrArg (fun v => Ending.returned (Value.bool v)) (by rw [HL.out, HQ.out]), ((C2.out.trans HI.out).drewN _).drewN _⟩
   ·
    have i2 : ¬ ((k : Int) < (ys.length : Int)) := by omega
    have i4 : ¬ ((xs.length : Int) < (ys.length : Int)) := by omega
    have HQ := Lib.hid (HC.out.symm.trans (cmpT_end1 xs ys k hlt (by omega)))
    go_wp2; go_ret
    exact ⟨by rw [HQ.out]; rfl, C2.out.trans HI.out⟩
  ·
   have i1 : ¬ ((k : Int) < (xs.length : Int)) := by omega
   by_cases hl2 : xs.length < ys.length
   ·
    have i4 : (xs.length : Int) < (ys.length : Int) := by omega
    have HQ := Lib.hid (HC.out.symm.trans (cmpT_endm xs ys k (by omega) (by omega)))
    go_wp2; go_ret
    exact ⟨by rw [HQ.out]; rfl, C2.out.trans HI.out⟩
   ·
    have i4 : ¬ ((xs.length : Int) < (ys.length : Int)) := by omega
    have HQ := Lib.hid (HC.out.symm.trans (cmpT_end0 xs ys k (by omega) (by omega)))
    go_wp2; go_ret
    exact ⟨by rw [HQ.out]; rfl, C2.out.trans HI.out⟩
end
section
open Go.RowKit Go.Lib


theorem pw_adj : ∀ (es : List EvP), (∀ (j : Nat) (a b : EvP), es[j]? = some a → es[j + 1]? = some b → leP a b) → es.Pairwise leP
 | [], _ => .nil
 | [a], _ => by simp
 | a :: b :: l, h => by
  have ih := pw_adj (b :: l) (fun j x y hx hy => h (j + 1) x y (by simpa using hx) (by simpa using hy))
  refine List.pairwise_cons.2 ⟨fun y hy => ?_, ih⟩
  have ab := h 0 a b rfl rfl
  rcases List.mem_cons.1 hy with q | q
  ·
   rw [q]; exact ab
  ·
   exact leP_tr ab ((List.pairwise_cons.1 ih).1 y q)
theorem pw_at {R : EvP → EvP → Prop} {es : List EvP} (h : es.Pairwise R) {i j : Nat} {a b : EvP} (hij : i < j) (ha : es[i]? = some a) (hb : es[j]? = some b) : R a b := by
 obtain ⟨h1, e1⟩ := List.getElem?_eq_some_iff.1 ha
 obtain ⟨h2, e2⟩ := List.getElem?_eq_some_iff.1 hb
 rw [← e1, ← e2]
 exact List.pairwise_iff_getElem.1 h i j h1 h2 hij
theorem pw_of {R : EvP → EvP → Prop} {es : List EvP} (h : ∀ (i j : Nat) (a b : EvP), i < j → es[i]? = some a → es[j]? = some b → R a b) : es.Pairwise R :=
 List.pairwise_iff_getElem.2 (fun i j h1 h2 hij => h i j _ _ hij (List.getElem?_eq_getElem h1) (List.getElem?_eq_getElem h2))
theorem st_no {es : List EvP} (h : ¬ StOk es) : stE es = 2 := by unfold stE; rw [if_neg h]
theorem st_no_le {es : List EvP} {k : Nat} {a b : EvP} (k0 : 0 < k) (ha : es[k - 1]? = some a) (hb : es[k]? = some b) (h : ¬ leP a b) : stE es = 2 := st_no (fun s => h (pw_at s.1 (by omega) ha hb))
theorem st_no_dot {es : List EvP} {i k : Nat} {a b : EvP} (ik : i < k) (ha : es[i]? = some a) (hb : es[k]? = some b) (h : a.n = b.n ∧ a.s = b.s) : stE es = 2 := st_no (fun s => pw_at s.2.1 ik ha hb h)
theorem mem_paths : ∀ (es : List EvP) (acc : List (List UInt8)) (p : List UInt8), p ∈ es.foldl (fun acc e => addP acc e.p) acc ↔ p ∈ acc ∨ ∃ e ∈ es, e.p = p := by
 intro es
 induction es with
 | nil => intro acc p; simp
 | cons x l ih =>
  intro acc p
  rw [List.foldl_cons, ih]
  have h : p ∈ addP acc x.p ↔ p ∈ acc ∨ x.p = p := by
   unfold addP
   split
   ·
    rename_i h
    exact ⟨.inl, fun q => q.elim id (fun e => e ▸ h)⟩
   ·
    rw [List.mem_append, List.mem_singleton]
    exact ⟨fun q => q.imp id Eq.symm, fun q => q.imp id Eq.symm⟩
  rw [h]
  constructor
  ·
   rintro ((a | a) | ⟨e, he, q⟩)
   ·
    exact .inl a
   ·
    exact .inr ⟨x, by simp, a⟩
   ·
    exact .inr ⟨e, by simp [he], q⟩
  ·
   rintro (a | ⟨e, he, q⟩)
   ·
    exact .inl (.inl a)
   ·
    rcases List.mem_cons.1 he with r | r
    ·
     rw [r] at q; exact .inl (.inr q)
    ·
     exact .inr ⟨e, r, q⟩
theorem mem_pathsE {es : List EvP} {p : List UInt8} : p ∈ pathsE es ↔ ∃ e ∈ es, e.p = p := by
 unfold pathsE
 rw [mem_paths]
 simp
theorem st_no_shelf {es : List EvP} {p : List UInt8} (hp : p ∈ pathsE es) (h : ¬ ShOk (atS es p)) : stE es = 2 := st_no (fun s => by
 obtain ⟨e, he, q⟩ := mem_pathsE.1 hp
 have := s.2.2 e he
 rw [q] at this
 exact h this)
theorem st_yes {es : List EvP} (h1 : ∀ (j : Nat) (a b : EvP), es[j]? = some a → es[j + 1]? = some b → leP a b) (h2 : ∀ (i j : Nat) (a b : EvP), i < j → es[i]? = some a → es[j]? = some b → dotNe a b) (h3 : ∀ p ∈ pathsE es, ShOk (atS es p)) : stE es = 0 :=
 stE_zero.2 ⟨pw_adj es h1, pw_of h2, fun e he => h3 _ (mem_pathsE.2 ⟨e, he, rfl⟩)⟩
def AdjTo (es : List EvP) (k : Nat) : Prop := ∀ (j : Nat) (a b : EvP), j + 1 < k → es[j]? = some a → es[j + 1]? = some b → leP a b
def NeTo (es : List EvP) (k : Nat) : Prop := ∀ (i j : Nat) (a b : EvP), i < j → j < k → es[i]? = some a → es[j]? = some b → dotNe a b
theorem adj_next {es : List EvP} {k : Nat} {b : EvP} (h : AdjTo es k) (hb : es[k]? = some b) (q : ∀ a, 0 < k → es[k - 1]? = some a → leP a b) : AdjTo es (k + 1) := fun j a c hj ha hc => by
 by_cases e : j + 1 < k
 ·
  exact h j a c e ha hc
 ·
  obtain rfl : k = j + 1 := by omega
  rw [hb] at hc
  cases hc
  exact q a (by omega) (by simpa using ha)
theorem ne_next {es : List EvP} {k : Nat} {b : EvP} (h : NeTo es k) (hb : es[k]? = some b) (q : ∀ (i : Nat) (a : EvP), i < k → es[i]? = some a → dotNe a b) : NeTo es (k + 1) := fun i j a c ij hj ha hc => by
 by_cases e : j < k
 ·
  exact h i j a c ij e ha hc
 ·
  obtain rfl : k = j := by omega
  rw [hb] at hc
  cases hc
  exact q i a ij ha

set_option maxRecDepth 100000 in
set_option maxHeartbeats 16000000 in
theorem ktcheck_any (w : World) (A : Option Addr) (c : Nat) (xs : List EvT) (es : List EvP) (h : RdK evTy w A xs.length xs) (hx : EvsR w xs es) (hn : xs.length ≤ 1000) (hs : ∀ e ∈ es, EvSm e ∧ e.q.length ≤ 100000) :
  Calls Tryz.prog 16 #[.slice A xs.length c] w fun r w' => r = .returned (.int .i64 (stE es)) ∧ Chg [] w w' := by

 have HA := Lib.hid h
 have HX := Lib.hid hx
 have HN := Lib.hid hn
 have HS := Lib.hid hs
 have XL : Hid (xs.length = es.length) := Lib.hid hx.1
 obtain ⟨V, hV⟩ : ∃ V, stE es = V := ⟨_, rfl⟩
 have HV := Lib.hid hV
 rw [hV]
 clear h hx hn hs hV
 go_enter Tryz.func16, Tryz.ntmps16
 go_wp2
 go_loopw [3, 4] (fun v3 _ wr => ∃ (k : Nat), k ≤ xs.length ∧ v3 = .int .i64 (k : Int) ∧ Hid (AdjTo es k) ∧ Hid (NeTo es k) ∧ Hid (Chg [] w wr)) (fun v3 _ _ => xs.length - (RowKit.intOf v3).toNat)
 case atStart => exact ⟨0, Nat.zero_le _, rfl, Lib.hid (fun j a b h => by omega), Lib.hid (fun i j a b h1 h2 => by omega), Chg.refl _ _⟩
 case round =>
  obtain ⟨k, hk, rfl, AD, NE, PC⟩ := hrel
  have j0 : (0 : Int) ≤ (k : Int) := by omega
  by_cases hlt : k < xs.length
  ·
   have j1 : (k : Int) < (xs.length : Int) := by omega
   have j3 : IntKind.i64.wrap ((k : Int) + 1) = (k : Int) + 1 := IntWalk.i64_in _ (by have := HN.out; omega)
   obtain ⟨g3, o3, eA, _⟩ := HA.out.line (by omega)
   have EA := Lib.hid eA
   obtain ⟨x, e, ex, ee, rx⟩ := HX.out.at_ hlt
   have EX := Lib.hid ex
   have EE := Lib.hid ee
   have XD : Hid (x.n = e.n ∧ x.s = e.s ∧ x.p = strOf e.p) := Lib.hid ⟨rx.n, rx.s, rx.p⟩
   clear ex ee rx
   rw [eA]
   clear eA
   by_cases k0 : k = 0
   ·
    skip
    have AD1 : Hid (AdjTo es (k + 1)) := Lib.hid (adj_next AD.out EE.out (fun a q => by omega))
    have g1 : ¬ (0 : Int) < (k : Int) := by omega
    have g2 : ¬ 0 < k := by omega
    have g3' : decide ((0 : Int) < (k : Int)) = false := decide_eq_false g1
    have g4 : decide (0 < k) = false := decide_eq_false g2
    go_upto_region 4 with fail
    refine wp_region_held_drew (S := fun w' => Chg [] wr w') (by kernel_rfl) (Chg.refl [] wr).drew (fun hHeld => ?_)
    refine sy 0 13 rfl rfl ?_; try simp only [Act.put, sA, s0, s1]
    refine sy 1 14 rfl rfl ?_; try simp only [Act.put, sA, s0, s1]
    refine sy 2 15 rfl rfl ?_; try simp only [Act.put, sA, s0, s1]
    refine sn 3 16 rfl rfl ?_; try simp only [Act.put, sA, s0, s1]
    refine sn 4 17 rfl rfl ?_; try simp only [Act.put, sA, s0, s1]
    refine sn 5 18 rfl rfl ?_; try simp only [Act.put, sA, s0, s1]
    refine sn 6 19 rfl rfl ?_; try simp only [Act.put, sA, s0, s1]
    refine sn 7 20 rfl rfl ?_; try simp only [Act.put, sA, s0, s1]
    refine sn 8 21 rfl rfl ?_; try simp only [Act.put, sA, s0, s1]
    refine sn 9 22 rfl rfl ?_; try simp only [Act.put, sA, s0, s1]
    refine sn 10 23 rfl rfl ?_; try simp only [Act.put, sA, s0, s1]
    refine sn 11 24 rfl rfl ?_; try simp only [Act.put, sA, s0, s1]
    refine sn 12 25 rfl rfl ?_; try simp only [Act.put, sA, s0, s1]
    refine sn 13 26 rfl rfl ?_; try simp only [Act.put, sA, s0, s1]
    refine sn 14 27 rfl rfl ?_; try simp only [Act.put, sA, s0, s1]
    refine sy 15 28 rfl rfl ?_; try simp only [Act.put, sA, s0, s1]
    refine sy 16 29 rfl rfl ?_; try simp only [Act.put, sA, s0, s1]
    refine sn 17 30 rfl rfl ?_; try simp only [Act.put, sA, s0, s1]
    refine sn 18 31 rfl rfl ?_; try simp only [Act.put, sA, s0, s1]
    refine sn 19 32 rfl rfl ?_; try simp only [Act.put, sA, s0, s1]
    refine sn 20 33 rfl rfl ?_; try simp only [Act.put, sA, s0, s1]
    refine sn 21 34 rfl rfl ?_; try simp only [Act.put, sA, s0, s1]
    refine sn 22 35 rfl rfl ?_; try simp only [Act.put, sA, s0, s1]
    refine sn 23 36 rfl rfl ?_; try simp only [Act.put, sA, s0, s1]
    refine sn 24 37 rfl rfl ?_; try simp only [Act.put, sA, s0, s1]
    refine sn 25 38 rfl rfl ?_; try simp only [Act.put, sA, s0, s1]
    refine sn 26 39 rfl rfl ?_; try simp only [Act.put, sA, s0, s1]
    refine sn 27 40 rfl rfl ?_; try simp only [Act.put, sA, s0, s1]
    refine sn 28 41 rfl rfl ?_; try simp only [Act.put, sA, s0, s1]
    refine sn 29 42 rfl rfl ?_; try simp only [Act.put, sA, s0, s1]
    refine sy 30 43 rfl rfl ?_; try simp only [Act.put, sA, s0, s1]
    refine wpAnyH_done (by kernel_rfl) ?_ _; clear g1 g2 g3' g4 k0
    replace PC := Lib.hid (PC.out.trans hHeld)
    clear hHeld; go_wp2
    have PO := PC
    clear PC
    go_loopw [4] (fun v4 wr => ∃ (i : Nat), i ≤ k ∧ v4 = .int .i64 (i : Int) ∧ Hid (∀ (j : Nat) (a : EvP), j < i → es[j]? = some a → dotNe a e) ∧ Hid (Chg [] w wr)) (fun v4 _ => k - (RowKit.intOf v4).toNat)
    case atStart => exact ⟨0, Nat.zero_le _, rfl, Lib.hid (fun j a h => by omega), PO⟩
    case round =>
     obtain ⟨i, hi, rfl, ND, PC⟩ := hrel
     clear PO
     have i0 : (0 : Int) ≤ (i : Int) := by omega
     by_cases hil : i < k
     ·
      have i1 : (i : Int) < (k : Int) := by omega
      have i2 : (i : Int) < (xs.length : Int) := by omega
      have i4 : i < xs.length := by omega
      have i3 : IntKind.i64.wrap ((i : Int) + 1) = (i : Int) + 1 := IntWalk.i64_in _ (by have := HN.out; omega)
      obtain ⟨y, f, ey, ef, ry⟩ := HX.out.at_ i4
      have EY := Lib.hid ey
      have EF := Lib.hid ef
      have YD : Hid (y.n = f.n ∧ y.s = f.s) := Lib.hid ⟨ry.n, ry.s⟩
      clear ey ef ry
      have HC : Hid (∀ w', Chg [] wr w' → _ ∧ _) := Lib.hid (fun w' hc => And.intro (evCells ((EA.out ▸ HA.out).chg (PC.out.trans hc) (by simp)) EX.out) (evCells ((EA.out ▸ HA.out).chg (PC.out.trans hc) (by simp)) EY.out))
      by_cases hd : y.n = x.n ∧ y.s = x.s
      ·
       skip
       have NO : Hid (stE es = 2) := Lib.hid (st_no_dot hil EF.out EE.out ⟨by rw [← YD.out.1, ← XD.out.1]; exact hd.1, by rw [← YD.out.2, ← XD.out.2.1]; exact hd.2⟩)
       have dq : ((y.n == x.n) : Bool) = true := by simpa using hd.1
       have dr : ((y.s == x.s) : Bool) = true := by simpa using hd.2
       clear hd
       go_upto_region 9 with fail
       refine wp_region_held_drew (S := fun w' => Chg [] wr w') (by kernel_rfl) (Chg.refl [] wr).drew (fun hHeld => ?_)
       refine sy 0 49 rfl rfl ?_; try simp only [Act.put, sA, s0, s1]
       refine sy 1 50 rfl rfl ?_; try simp only [Act.put, sA, s0, s1]
       refine sy 2 51 rfl rfl ?_; try simp only [Act.put, sA, s0, s1]
       refine sy 3 52 rfl rfl ?_; try simp only [Act.put, sA, s0, s1]
       refine sy 4 53 rfl rfl ?_ (hy := by (intro w hSw; (try dsimp only at hSw); have hq := HC.out _ hSw; obtain ⟨⟨q0, q1, q2, q3, q4, q5, q6⟩, p0, p1, p2, p3, p4, p5, p6⟩ := hq; go_simp; try with_reducible rfl))
       try simp only [Act.put, sA, s0, s1]
       refine sy 5 54 rfl rfl ?_; try simp only [Act.put, sA, s0, s1]
       refine sy 6 55 rfl rfl ?_; try simp only [Act.put, sA, s0, s1]
       refine sy 7 56 rfl rfl ?_; try simp only [Act.put, sA, s0, s1]
       refine sy 8 57 rfl rfl ?_; try simp only [Act.put, sA, s0, s1]
       refine sy 9 58 rfl rfl ?_ (hy := by (intro w hSw; (try dsimp only at hSw); have hq := HC.out _ hSw; obtain ⟨⟨q0, q1, q2, q3, q4, q5, q6⟩, p0, p1, p2, p3, p4, p5, p6⟩ := hq; go_simp; try with_reducible rfl))
       try simp only [Act.put, sA, s0, s1]
       refine sy 10 59 rfl rfl ?_; try simp only [Act.put, sA, s0, s1]
       refine wpAnyH_done (by kernel_rfl) ?_ _
       replace PC := Lib.hid (PC.out.trans hHeld)
       clear hHeld HC; go_wp2; go_ret
       have V2 : V = 2 := by rw [← HV.out]; exact NO.out
       rw [V2]
       exact ⟨rfl, PC.out⟩
      by_cases h1 : y.n = x.n
      ·
       skip
       have dq : ((y.n == x.n) : Bool) = true := by simpa using h1
       have dr : ((y.s == x.s) : Bool) = false := by simpa using (fun q => hd ⟨h1, q⟩)
       replace hd := Lib.hid hd
       have ND1 : Hid (∀ (j : Nat) (a : EvP), j < i + 1 → es[j]? = some a → dotNe a e) := Lib.hid (fun j a hj ha => by
        by_cases q : j < i
        ·
         exact ND.out j a q ha
        ·
         obtain rfl : j = i := by omega
         rw [EF.out] at ha
         cases ha
         intro t
         exact hd.out ⟨by rw [YD.out.1, XD.out.1]; exact t.1, by rw [YD.out.2, XD.out.2.1]; exact t.2⟩)
       clear h1 hd
       go_upto_region 9 with fail
       refine wp_region_held_drew (S := fun w' => Chg [] wr w') (by kernel_rfl) (Chg.refl [] wr).drew (fun hHeld => ?_)
       refine sy 0 49 rfl rfl ?_; try simp only [Act.put, sA, s0, s1]
       refine sy 1 50 rfl rfl ?_; try simp only [Act.put, sA, s0, s1]
       refine sy 2 51 rfl rfl ?_; try simp only [Act.put, sA, s0, s1]
       refine sy 3 52 rfl rfl ?_; try simp only [Act.put, sA, s0, s1]
       refine sy 4 53 rfl rfl ?_ (hy := by (intro w hSw; (try dsimp only at hSw); have hq := HC.out _ hSw; obtain ⟨⟨q0, q1, q2, q3, q4, q5, q6⟩, p0, p1, p2, p3, p4, p5, p6⟩ := hq; go_simp; try with_reducible rfl))
       try simp only [Act.put, sA, s0, s1]
       refine sy 5 54 rfl rfl ?_; try simp only [Act.put, sA, s0, s1]
       refine sy 6 55 rfl rfl ?_; try simp only [Act.put, sA, s0, s1]
       refine sy 7 56 rfl rfl ?_; try simp only [Act.put, sA, s0, s1]
       refine sy 8 57 rfl rfl ?_; try simp only [Act.put, sA, s0, s1]
       refine sy 9 58 rfl rfl ?_ (hy := by (intro w hSw; (try dsimp only at hSw); have hq := HC.out _ hSw; obtain ⟨⟨q0, q1, q2, q3, q4, q5, q6⟩, p0, p1, p2, p3, p4, p5, p6⟩ := hq; go_simp; try with_reducible rfl))
       try simp only [Act.put, sA, s0, s1]
       refine sy 10 59 rfl rfl ?_; try simp only [Act.put, sA, s0, s1]
       refine wpAnyH_done (by kernel_rfl) ?_ _
       replace PC := Lib.hid (PC.out.trans hHeld)
       clear hHeld HC; go_wp2; go_round
       case rel => exact ⟨i + 1, by omega, by go_num, ND1, PC⟩
       case measure => simp [RowKit.intOf]; omega
      have dq : ((y.n == x.n) : Bool) = false := by simpa using h1
      replace hd := Lib.hid hd
      have ND1 : Hid (∀ (j : Nat) (a : EvP), j < i + 1 → es[j]? = some a → dotNe a e) := Lib.hid (fun j a hj ha => by
       by_cases q : j < i
       ·
        exact ND.out j a q ha
       ·
        obtain rfl : j = i := by omega
        rw [EF.out] at ha
        cases ha
        intro t
        exact hd.out ⟨by rw [YD.out.1, XD.out.1]; exact t.1, by rw [YD.out.2, XD.out.2.1]; exact t.2⟩)
      clear h1 hd
      go_upto_region 9 with fail
      refine wp_region_held_drew (S := fun w' => Chg [] wr w') (by kernel_rfl) (Chg.refl [] wr).drew (fun hHeld => ?_)
      refine sy 0 49 rfl rfl ?_; try simp only [Act.put, sA, s0, s1]
      refine sy 1 50 rfl rfl ?_; try simp only [Act.put, sA, s0, s1]
      refine sy 2 51 rfl rfl ?_; try simp only [Act.put, sA, s0, s1]
      refine sy 3 52 rfl rfl ?_; try simp only [Act.put, sA, s0, s1]
      refine sy 4 53 rfl rfl ?_ (hy := by (intro w hSw; (try dsimp only at hSw); have hq := HC.out _ hSw; obtain ⟨⟨q0, q1, q2, q3, q4, q5, q6⟩, p0, p1, p2, p3, p4, p5, p6⟩ := hq; go_simp; try with_reducible rfl))
      try simp only [Act.put, sA, s0, s1]
      refine sy 5 54 rfl rfl ?_; try simp only [Act.put, sA, s0, s1]
      refine sy 6 55 rfl rfl ?_; try simp only [Act.put, sA, s0, s1]
      refine sy 7 56 rfl rfl ?_; try simp only [Act.put, sA, s0, s1]
      refine sy 8 57 rfl rfl ?_; try simp only [Act.put, sA, s0, s1]
      refine sy 9 58 rfl rfl ?_ (hy := by (intro w hSw; (try dsimp only at hSw); have hq := HC.out _ hSw; obtain ⟨⟨q0, q1, q2, q3, q4, q5, q6⟩, p0, p1, p2, p3, p4, p5, p6⟩ := hq; go_simp; try with_reducible rfl))
      try simp only [Act.put, sA, s0, s1]
      refine sy 10 59 rfl rfl ?_; try simp only [Act.put, sA, s0, s1]
      refine wpAnyH_done (by kernel_rfl) ?_ _
      replace PC := Lib.hid (PC.out.trans hHeld)
      clear hHeld HC; go_wp2; go_round
      case rel => exact ⟨i + 1, by omega, by go_num, ND1, PC⟩
      case measure => simp [RowKit.intOf]; omega
     ·
      obtain rfl : i = k := by omega
      have i1 : ¬ (i : Int) < (i : Int) := by omega
      have NE1 : Hid (NeTo es (i + 1)) := Lib.hid (ne_next NE.out EE.out ND.out)
      go_wp2; go_round
      case rel => exact ⟨i + 1, by omega, by go_num, AD1, NE1, PC⟩
      case measure => simp [RowKit.intOf]; omega
   have g1 : (0 : Int) < (k : Int) := by omega
   have g2 : 0 < k := by omega
   have g3' : decide ((0 : Int) < (k : Int)) = true := decide_eq_true g1
   have g4 : decide (0 < k) = true := decide_eq_true g2
   have w1' : IntKind.i64.wrap ((k : Int) - 1) = ((k - 1 : Nat) : Int) := by rw [IntWalk.i64_in _ (by have := HN.out; omega)]; omega
   have g5 : (0 : Int) ≤ ((k - 1 : Nat) : Int) := by omega
   have g6' : ((k - 1 : Nat) : Int) < (xs.length : Int) := by omega
   have g7 : k - 1 < xs.length := by omega
   obtain ⟨y0, f0, ey, ef, ry⟩ := HX.out.at_ g7
   have EY0 := Lib.hid ey
   have EF0 := Lib.hid ef
   have YP := Lib.hid ry.p
   clear ey ef ry
   have HC0 : Hid (∀ w', Chg [] wr w' → w'.cell? ⟨g3, o3 + k * 7 + 2, none⟩ = some (.string (strOf e.p)) ∧ w'.cell? ⟨g3, o3 + (k - 1) * 7 + 2, none⟩ = some (.string (strOf f0.p))) := Lib.hid (fun w' hc => by
    have a := (evCells ((EA.out ▸ HA.out).chg (PC.out.trans hc) (by simp)) EX.out).2.2.1
    have b := (evCells ((EA.out ▸ HA.out).chg (PC.out.trans hc) (by simp)) EY0.out).2.2.1
    rw [XD.out.2.2] at a
    rw [YP.out] at b
    exact ⟨a, b⟩)
   by_cases hp : e.p = f0.p
   ·
    skip
    have AD1 : Hid (AdjTo es (k + 1)) := Lib.hid (adj_next AD.out EE.out (fun a _ ha => by rw [EF0.out] at ha; cases ha; exact .inl hp.symm))
    have e4 : (e.p == f0.p) = true := by rw [hp]; exact beq_self_eq_true _
    have e5 : ((strOf e.p == strOf f0.p) : Bool) = true := by rw [hp]; show ((f0.p.toArray == f0.p.toArray) : Bool) = true; simp
    have e6 : ((strOf e.p != strOf f0.p) : Bool) = false := by simp only [bne, e5]; rfl
    have e7 : (e.p != f0.p) = false := by simp only [bne, e4]; rfl
    clear hp
    go_upto_region 4 with fail
    refine wp_region_held_drew (S := fun w' => Chg [] wr w') (by kernel_rfl) (Chg.refl [] wr).drew (fun hHeld => ?_)
    refine sy 0 13 rfl rfl ?_; try simp only [Act.put, sA, s0, s1]
    refine sy 1 14 rfl rfl ?_; try simp only [Act.put, sA, s0, s1]
    refine sy 2 15 rfl rfl ?_; try simp only [Act.put, sA, s0, s1]
    refine sy 3 16 rfl rfl ?_; try simp only [Act.put, sA, s0, s1]
    refine sy 4 17 rfl rfl ?_; try simp only [Act.put, sA, s0, s1]
    refine sy 5 18 rfl rfl ?_; try simp only [Act.put, sA, s0, s1]
    refine sy 6 19 rfl rfl ?_; try simp only [Act.put, sA, s0, s1]
    refine sy 7 20 rfl rfl ?_ (hy := by (intro w hSw; (try dsimp only at hSw); have hq := HC0.out _ hSw; obtain ⟨q0, q1⟩ := hq; go_simp; try with_reducible rfl))
    try simp only [Act.put, sA, s0, s1]
    refine sy 8 21 rfl rfl ?_; try simp only [Act.put, sA, s0, s1]
    refine sy 9 22 rfl rfl ?_; try simp only [Act.put, sA, s0, s1]
    refine sy 10 23 rfl rfl ?_; try simp only [Act.put, sA, s0, s1]
    refine sy 11 24 rfl rfl ?_; try simp only [Act.put, sA, s0, s1]
    refine sy 12 25 rfl rfl ?_; try simp only [Act.put, sA, s0, s1]
    refine sy 13 26 rfl rfl ?_ (hy := by (intro w hSw; (try dsimp only at hSw); have hq := HC0.out _ hSw; obtain ⟨q0, q1⟩ := hq; go_simp; try with_reducible rfl))
    try simp only [Act.put, sA, s0, s1]
    refine sy 14 27 rfl rfl ?_; try simp only [Act.put, sA, s0, s1]
    refine sy 15 28 rfl rfl ?_; try simp only [Act.put, sA, s0, s1]
    refine sy 16 29 rfl rfl ?_; try simp only [Act.put, sA, s0, s1]
    refine sn 17 30 rfl rfl ?_; try simp only [Act.put, sA, s0, s1]
    refine sn 18 31 rfl rfl ?_; try simp only [Act.put, sA, s0, s1]
    refine sn 19 32 rfl rfl ?_; try simp only [Act.put, sA, s0, s1]
    refine sn 20 33 rfl rfl ?_; try simp only [Act.put, sA, s0, s1]
    refine sn 21 34 rfl rfl ?_; try simp only [Act.put, sA, s0, s1]
    refine sn 22 35 rfl rfl ?_; try simp only [Act.put, sA, s0, s1]
    refine sn 23 36 rfl rfl ?_; try simp only [Act.put, sA, s0, s1]
    refine sn 24 37 rfl rfl ?_; try simp only [Act.put, sA, s0, s1]
    refine sn 25 38 rfl rfl ?_; try simp only [Act.put, sA, s0, s1]
    refine sn 26 39 rfl rfl ?_; try simp only [Act.put, sA, s0, s1]
    refine sn 27 40 rfl rfl ?_; try simp only [Act.put, sA, s0, s1]
    refine sn 28 41 rfl rfl ?_; try simp only [Act.put, sA, s0, s1]
    refine sn 29 42 rfl rfl ?_; try simp only [Act.put, sA, s0, s1]
    refine sy 30 43 rfl rfl ?_; try simp only [Act.put, sA, s0, s1]
    refine wpAnyH_done (by kernel_rfl) ?_ _; clear e4 e5 e6 e7 HC0
    replace PC := Lib.hid (PC.out.trans hHeld)
    clear hHeld; go_wp2
    have PO := PC
    clear PC
    go_loopw [4] (fun v4 wr => ∃ (i : Nat), i ≤ k ∧ v4 = .int .i64 (i : Int) ∧ Hid (∀ (j : Nat) (a : EvP), j < i → es[j]? = some a → dotNe a e) ∧ Hid (Chg [] w wr)) (fun v4 _ => k - (RowKit.intOf v4).toNat)
    case atStart => exact ⟨0, Nat.zero_le _, rfl, Lib.hid (fun j a h => by omega), PO⟩
    case round =>
     obtain ⟨i, hi, rfl, ND, PC⟩ := hrel
     clear PO
     have i0 : (0 : Int) ≤ (i : Int) := by omega
     by_cases hil : i < k
     ·
      have i1 : (i : Int) < (k : Int) := by omega
      have i2 : (i : Int) < (xs.length : Int) := by omega
      have i4 : i < xs.length := by omega
      have i3 : IntKind.i64.wrap ((i : Int) + 1) = (i : Int) + 1 := IntWalk.i64_in _ (by have := HN.out; omega)
      obtain ⟨y, f, ey, ef, ry⟩ := HX.out.at_ i4
      have EY := Lib.hid ey
      have EF := Lib.hid ef
      have YD : Hid (y.n = f.n ∧ y.s = f.s) := Lib.hid ⟨ry.n, ry.s⟩
      clear ey ef ry
      have HC : Hid (∀ w', Chg [] wr w' → _ ∧ _) := Lib.hid (fun w' hc => And.intro (evCells ((EA.out ▸ HA.out).chg (PC.out.trans hc) (by simp)) EX.out) (evCells ((EA.out ▸ HA.out).chg (PC.out.trans hc) (by simp)) EY.out))
      by_cases hd : y.n = x.n ∧ y.s = x.s
      ·
       skip
       have NO : Hid (stE es = 2) := Lib.hid (st_no_dot hil EF.out EE.out ⟨by rw [← YD.out.1, ← XD.out.1]; exact hd.1, by rw [← YD.out.2, ← XD.out.2.1]; exact hd.2⟩)
       have dq : ((y.n == x.n) : Bool) = true := by simpa using hd.1
       have dr : ((y.s == x.s) : Bool) = true := by simpa using hd.2
       clear hd
       go_upto_region 9 with fail
       refine wp_region_held_drew (S := fun w' => Chg [] wr w') (by kernel_rfl) (Chg.refl [] wr).drew (fun hHeld => ?_)
       refine sy 0 49 rfl rfl ?_; try simp only [Act.put, sA, s0, s1]
       refine sy 1 50 rfl rfl ?_; try simp only [Act.put, sA, s0, s1]
       refine sy 2 51 rfl rfl ?_; try simp only [Act.put, sA, s0, s1]
       refine sy 3 52 rfl rfl ?_; try simp only [Act.put, sA, s0, s1]
       refine sy 4 53 rfl rfl ?_ (hy := by (intro w hSw; (try dsimp only at hSw); have hq := HC.out _ hSw; obtain ⟨⟨q0, q1, q2, q3, q4, q5, q6⟩, p0, p1, p2, p3, p4, p5, p6⟩ := hq; go_simp; try with_reducible rfl))
       try simp only [Act.put, sA, s0, s1]
       refine sy 5 54 rfl rfl ?_; try simp only [Act.put, sA, s0, s1]
       refine sy 6 55 rfl rfl ?_; try simp only [Act.put, sA, s0, s1]
       refine sy 7 56 rfl rfl ?_; try simp only [Act.put, sA, s0, s1]
       refine sy 8 57 rfl rfl ?_; try simp only [Act.put, sA, s0, s1]
       refine sy 9 58 rfl rfl ?_ (hy := by (intro w hSw; (try dsimp only at hSw); have hq := HC.out _ hSw; obtain ⟨⟨q0, q1, q2, q3, q4, q5, q6⟩, p0, p1, p2, p3, p4, p5, p6⟩ := hq; go_simp; try with_reducible rfl))
       try simp only [Act.put, sA, s0, s1]
       refine sy 10 59 rfl rfl ?_; try simp only [Act.put, sA, s0, s1]
       refine wpAnyH_done (by kernel_rfl) ?_ _
       replace PC := Lib.hid (PC.out.trans hHeld)
       clear hHeld HC; go_wp2; go_ret
       have V2 : V = 2 := by rw [← HV.out]; exact NO.out
       rw [V2]
       exact ⟨rfl, PC.out⟩
      by_cases h1 : y.n = x.n
      ·
       skip
       have dq : ((y.n == x.n) : Bool) = true := by simpa using h1
       have dr : ((y.s == x.s) : Bool) = false := by simpa using (fun q => hd ⟨h1, q⟩)
       replace hd := Lib.hid hd
       have ND1 : Hid (∀ (j : Nat) (a : EvP), j < i + 1 → es[j]? = some a → dotNe a e) := Lib.hid (fun j a hj ha => by
        by_cases q : j < i
        ·
         exact ND.out j a q ha
        ·
         obtain rfl : j = i := by omega
         rw [EF.out] at ha
         cases ha
         intro t
         exact hd.out ⟨by rw [YD.out.1, XD.out.1]; exact t.1, by rw [YD.out.2, XD.out.2.1]; exact t.2⟩)
       clear h1 hd
       go_upto_region 9 with fail
       refine wp_region_held_drew (S := fun w' => Chg [] wr w') (by kernel_rfl) (Chg.refl [] wr).drew (fun hHeld => ?_)
       refine sy 0 49 rfl rfl ?_; try simp only [Act.put, sA, s0, s1]
       refine sy 1 50 rfl rfl ?_; try simp only [Act.put, sA, s0, s1]
       refine sy 2 51 rfl rfl ?_; try simp only [Act.put, sA, s0, s1]
       refine sy 3 52 rfl rfl ?_; try simp only [Act.put, sA, s0, s1]
       refine sy 4 53 rfl rfl ?_ (hy := by (intro w hSw; (try dsimp only at hSw); have hq := HC.out _ hSw; obtain ⟨⟨q0, q1, q2, q3, q4, q5, q6⟩, p0, p1, p2, p3, p4, p5, p6⟩ := hq; go_simp; try with_reducible rfl))
       try simp only [Act.put, sA, s0, s1]
       refine sy 5 54 rfl rfl ?_; try simp only [Act.put, sA, s0, s1]
       refine sy 6 55 rfl rfl ?_; try simp only [Act.put, sA, s0, s1]
       refine sy 7 56 rfl rfl ?_; try simp only [Act.put, sA, s0, s1]
       refine sy 8 57 rfl rfl ?_; try simp only [Act.put, sA, s0, s1]
       refine sy 9 58 rfl rfl ?_ (hy := by (intro w hSw; (try dsimp only at hSw); have hq := HC.out _ hSw; obtain ⟨⟨q0, q1, q2, q3, q4, q5, q6⟩, p0, p1, p2, p3, p4, p5, p6⟩ := hq; go_simp; try with_reducible rfl))
       try simp only [Act.put, sA, s0, s1]
       refine sy 10 59 rfl rfl ?_; try simp only [Act.put, sA, s0, s1]
       refine wpAnyH_done (by kernel_rfl) ?_ _
       replace PC := Lib.hid (PC.out.trans hHeld)
       clear hHeld HC; go_wp2; go_round
       case rel => exact ⟨i + 1, by omega, by go_num, ND1, PC⟩
       case measure => simp [RowKit.intOf]; omega
      have dq : ((y.n == x.n) : Bool) = false := by simpa using h1
      replace hd := Lib.hid hd
      have ND1 : Hid (∀ (j : Nat) (a : EvP), j < i + 1 → es[j]? = some a → dotNe a e) := Lib.hid (fun j a hj ha => by
       by_cases q : j < i
       ·
        exact ND.out j a q ha
       ·
        obtain rfl : j = i := by omega
        rw [EF.out] at ha
        cases ha
        intro t
        exact hd.out ⟨by rw [YD.out.1, XD.out.1]; exact t.1, by rw [YD.out.2, XD.out.2.1]; exact t.2⟩)
      clear h1 hd
      go_upto_region 9 with fail
      refine wp_region_held_drew (S := fun w' => Chg [] wr w') (by kernel_rfl) (Chg.refl [] wr).drew (fun hHeld => ?_)
      refine sy 0 49 rfl rfl ?_; try simp only [Act.put, sA, s0, s1]
      refine sy 1 50 rfl rfl ?_; try simp only [Act.put, sA, s0, s1]
      refine sy 2 51 rfl rfl ?_; try simp only [Act.put, sA, s0, s1]
      refine sy 3 52 rfl rfl ?_; try simp only [Act.put, sA, s0, s1]
      refine sy 4 53 rfl rfl ?_ (hy := by (intro w hSw; (try dsimp only at hSw); have hq := HC.out _ hSw; obtain ⟨⟨q0, q1, q2, q3, q4, q5, q6⟩, p0, p1, p2, p3, p4, p5, p6⟩ := hq; go_simp; try with_reducible rfl))
      try simp only [Act.put, sA, s0, s1]
      refine sy 5 54 rfl rfl ?_; try simp only [Act.put, sA, s0, s1]
      refine sy 6 55 rfl rfl ?_; try simp only [Act.put, sA, s0, s1]
      refine sy 7 56 rfl rfl ?_; try simp only [Act.put, sA, s0, s1]
      refine sy 8 57 rfl rfl ?_; try simp only [Act.put, sA, s0, s1]
      refine sy 9 58 rfl rfl ?_ (hy := by (intro w hSw; (try dsimp only at hSw); have hq := HC.out _ hSw; obtain ⟨⟨q0, q1, q2, q3, q4, q5, q6⟩, p0, p1, p2, p3, p4, p5, p6⟩ := hq; go_simp; try with_reducible rfl))
      try simp only [Act.put, sA, s0, s1]
      refine sy 10 59 rfl rfl ?_; try simp only [Act.put, sA, s0, s1]
      refine wpAnyH_done (by kernel_rfl) ?_ _
      replace PC := Lib.hid (PC.out.trans hHeld)
      clear hHeld HC; go_wp2; go_round
      case rel => exact ⟨i + 1, by omega, by go_num, ND1, PC⟩
      case measure => simp [RowKit.intOf]; omega
     ·
      obtain rfl : i = k := by omega
      have i1 : ¬ (i : Int) < (i : Int) := by omega
      have NE1 : Hid (NeTo es (i + 1)) := Lib.hid (ne_next NE.out EE.out ND.out)
      go_wp2; go_round
      case rel => exact ⟨i + 1, by omega, by go_num, AD1, NE1, PC⟩
      case measure => simp [RowKit.intOf]; omega
   have e1 := strOf_ne hp
   have e3 := strOf_ne2 hp
   have e4 : (e.p == f0.p) = false := beq_eq_false_iff_ne.2 hp
   have e6 : ((strOf e.p != strOf f0.p) : Bool) = true := by simp only [bne, e1]; rfl
   have e7 : (e.p != f0.p) = true := by simp only [bne, e4]; rfl
   have HP := Lib.hid hp
   clear hp
   have LS : Hid (∀ w', Chg [] wr w' → Calls Tryz.prog 51 #[.string (strOf f0.p), .string (strOf e.p)] w' fun r w2 => r = .returned (.bool (lessL f0.p e.p)) ∧ Chg [] w' w2) := Lib.hid (fun w' _ => qhless_any w' f0.p e.p (HS.out f0 (List.mem_of_getElem? EF0.out)).1.1 (HS.out e (List.mem_of_getElem? EE.out)).1.1)
   rcases hl : lessL f0.p e.p with _ | _
   ·
    skip
    have NO : Hid (stE es = 2) := Lib.hid (st_no_le (by omega) EF0.out EE.out (fun q => q.elim (fun t => HP.out t.symm) (fun t => by rw [hl] at t; cases t)))
    go_upto_region 4 with fail
    refine wp_region_held_drew (S := fun w' => Chg [] wr w') (by kernel_rfl) (Chg.refl [] wr).drew (fun hHeld => ?_)
    refine sy 0 13 rfl rfl ?_; try simp only [Act.put, sA, s0, s1]
    refine sy 1 14 rfl rfl ?_; try simp only [Act.put, sA, s0, s1]
    refine sy 2 15 rfl rfl ?_; try simp only [Act.put, sA, s0, s1]
    refine sy 3 16 rfl rfl ?_; try simp only [Act.put, sA, s0, s1]
    refine sy 4 17 rfl rfl ?_; try simp only [Act.put, sA, s0, s1]
    refine sy 5 18 rfl rfl ?_; try simp only [Act.put, sA, s0, s1]
    refine sy 6 19 rfl rfl ?_; try simp only [Act.put, sA, s0, s1]
    refine sy 7 20 rfl rfl ?_ (hy := by (intro w hSw; (try dsimp only at hSw); have hq := HC0.out _ hSw; obtain ⟨q0, q1⟩ := hq; go_simp; try with_reducible rfl))
    try simp only [Act.put, sA, s0, s1]
    refine sy 8 21 rfl rfl ?_; try simp only [Act.put, sA, s0, s1]
    refine sy 9 22 rfl rfl ?_; try simp only [Act.put, sA, s0, s1]
    refine sy 10 23 rfl rfl ?_; try simp only [Act.put, sA, s0, s1]
    refine sy 11 24 rfl rfl ?_; try simp only [Act.put, sA, s0, s1]
    refine sy 12 25 rfl rfl ?_; try simp only [Act.put, sA, s0, s1]
    refine sy 13 26 rfl rfl ?_ (hy := by (intro w hSw; (try dsimp only at hSw); have hq := HC0.out _ hSw; obtain ⟨q0, q1⟩ := hq; go_simp; try with_reducible rfl))
    try simp only [Act.put, sA, s0, s1]
    refine sy 14 27 rfl rfl ?_; try simp only [Act.put, sA, s0, s1]
    refine sy 15 28 rfl rfl ?_; try simp only [Act.put, sA, s0, s1]
    refine sy 16 29 rfl rfl ?_; try simp only [Act.put, sA, s0, s1]
    refine sy 17 30 rfl rfl ?_; try simp only [Act.put, sA, s0, s1]
    refine sy 18 31 rfl rfl ?_; try simp only [Act.put, sA, s0, s1]
    refine sy 19 32 rfl rfl ?_; try simp only [Act.put, sA, s0, s1]
    refine sy 20 33 rfl rfl ?_; try simp only [Act.put, sA, s0, s1]
    refine sy 21 34 rfl rfl ?_; try simp only [Act.put, sA, s0, s1]
    refine sy 22 35 rfl rfl ?_ (hy := by (intro w hSw; (try dsimp only at hSw); have hq := HC0.out _ hSw; obtain ⟨q0, q1⟩ := hq; go_simp; try with_reducible rfl))
    try simp only [Act.put, sA, s0, s1]
    refine sy 23 36 rfl rfl ?_; try simp only [Act.put, sA, s0, s1]
    refine sy 24 37 rfl rfl ?_; try simp only [Act.put, sA, s0, s1]
    refine sy 25 38 rfl rfl ?_; try simp only [Act.put, sA, s0, s1]
    refine sy 26 39 rfl rfl ?_; try simp only [Act.put, sA, s0, s1]
    refine sy 27 40 rfl rfl ?_ (hy := by (intro w hSw; (try dsimp only at hSw); have hq := HC0.out _ hSw; obtain ⟨q0, q1⟩ := hq; go_simp; try with_reducible rfl))
    try simp only [Act.put, sA, s0, s1]
    refine wpAnyH_ready (rs := [28]) (by kernel_rfl) (by simp) ?_; refine AllReadyH.cons rfl (fun K hK => ?_) AllReadyH.nil; replace hK := Lib.hid hK; go_simp
    refine (LS.out _ hHeld).mono ?_
    rintro r w9 ⟨rfl, hc⟩
    rw [hl]
    have C9 := Lib.hid (hHeld.trans hc)
    clear hc hHeld
    refine hK.out _ _ C9.out (fun hHeld => ?_)
    clear hK K; try simp only [Act.put, sA, s0, s1]
    refine sy 29 42 rfl rfl ?_; try simp only [Act.put, sA, s0, s1]
    refine sy 30 43 rfl rfl ?_; try simp only [Act.put, sA, s0, s1]
    refine wpAnyH_done (by kernel_rfl) ?_ _
    replace PC := Lib.hid (PC.out.trans C9.out)
    clear hHeld HC0 LS; go_wp2; go_ret
    have V2 : V = 2 := by rw [← HV.out]; exact NO.out
    rw [V2]
    exact ⟨rfl, PC.out⟩
   ·
    skip
    have AD1 : Hid (AdjTo es (k + 1)) := Lib.hid (adj_next AD.out EE.out (fun a _ ha => by rw [EF0.out] at ha; cases ha; exact .inr hl))
    go_upto_region 4 with fail
    refine wp_region_held_drew (S := fun w' => Chg [] wr w') (by kernel_rfl) (Chg.refl [] wr).drew (fun hHeld => ?_)
    refine sy 0 13 rfl rfl ?_; try simp only [Act.put, sA, s0, s1]
    refine sy 1 14 rfl rfl ?_; try simp only [Act.put, sA, s0, s1]
    refine sy 2 15 rfl rfl ?_; try simp only [Act.put, sA, s0, s1]
    refine sy 3 16 rfl rfl ?_; try simp only [Act.put, sA, s0, s1]
    refine sy 4 17 rfl rfl ?_; try simp only [Act.put, sA, s0, s1]
    refine sy 5 18 rfl rfl ?_; try simp only [Act.put, sA, s0, s1]
    refine sy 6 19 rfl rfl ?_; try simp only [Act.put, sA, s0, s1]
    refine sy 7 20 rfl rfl ?_ (hy := by (intro w hSw; (try dsimp only at hSw); have hq := HC0.out _ hSw; obtain ⟨q0, q1⟩ := hq; go_simp; try with_reducible rfl))
    try simp only [Act.put, sA, s0, s1]
    refine sy 8 21 rfl rfl ?_; try simp only [Act.put, sA, s0, s1]
    refine sy 9 22 rfl rfl ?_; try simp only [Act.put, sA, s0, s1]
    refine sy 10 23 rfl rfl ?_; try simp only [Act.put, sA, s0, s1]
    refine sy 11 24 rfl rfl ?_; try simp only [Act.put, sA, s0, s1]
    refine sy 12 25 rfl rfl ?_; try simp only [Act.put, sA, s0, s1]
    refine sy 13 26 rfl rfl ?_ (hy := by (intro w hSw; (try dsimp only at hSw); have hq := HC0.out _ hSw; obtain ⟨q0, q1⟩ := hq; go_simp; try with_reducible rfl))
    try simp only [Act.put, sA, s0, s1]
    refine sy 14 27 rfl rfl ?_; try simp only [Act.put, sA, s0, s1]
    refine sy 15 28 rfl rfl ?_; try simp only [Act.put, sA, s0, s1]
    refine sy 16 29 rfl rfl ?_; try simp only [Act.put, sA, s0, s1]
    refine sy 17 30 rfl rfl ?_; try simp only [Act.put, sA, s0, s1]
    refine sy 18 31 rfl rfl ?_; try simp only [Act.put, sA, s0, s1]
    refine sy 19 32 rfl rfl ?_; try simp only [Act.put, sA, s0, s1]
    refine sy 20 33 rfl rfl ?_; try simp only [Act.put, sA, s0, s1]
    refine sy 21 34 rfl rfl ?_; try simp only [Act.put, sA, s0, s1]
    refine sy 22 35 rfl rfl ?_ (hy := by (intro w hSw; (try dsimp only at hSw); have hq := HC0.out _ hSw; obtain ⟨q0, q1⟩ := hq; go_simp; try with_reducible rfl))
    try simp only [Act.put, sA, s0, s1]
    refine sy 23 36 rfl rfl ?_; try simp only [Act.put, sA, s0, s1]
    refine sy 24 37 rfl rfl ?_; try simp only [Act.put, sA, s0, s1]
    refine sy 25 38 rfl rfl ?_; try simp only [Act.put, sA, s0, s1]
    refine sy 26 39 rfl rfl ?_; try simp only [Act.put, sA, s0, s1]
    refine sy 27 40 rfl rfl ?_ (hy := by (intro w hSw; (try dsimp only at hSw); have hq := HC0.out _ hSw; obtain ⟨q0, q1⟩ := hq; go_simp; try with_reducible rfl))
    try simp only [Act.put, sA, s0, s1]
    refine wpAnyH_ready (rs := [28]) (by kernel_rfl) (by simp) ?_; refine AllReadyH.cons rfl (fun K hK => ?_) AllReadyH.nil; replace hK := Lib.hid hK; go_simp
    refine (LS.out _ hHeld).mono ?_
    rintro r w9 ⟨rfl, hc⟩
    rw [hl]
    have C9 := Lib.hid (hHeld.trans hc)
    clear hc hHeld
    refine hK.out _ _ C9.out (fun hHeld => ?_)
    clear hK K; try simp only [Act.put, sA, s0, s1]
    refine sy 29 42 rfl rfl ?_; try simp only [Act.put, sA, s0, s1]
    refine sy 30 43 rfl rfl ?_; try simp only [Act.put, sA, s0, s1]
    refine wpAnyH_done (by kernel_rfl) ?_ _
    replace PC := Lib.hid (PC.out.trans C9.out)
    clear hHeld HC0 LS hl e1 e3 e4 e6 e7; go_wp2
    have PO := PC
    clear PC
    go_loopw [4] (fun v4 wr => ∃ (i : Nat), i ≤ k ∧ v4 = .int .i64 (i : Int) ∧ Hid (∀ (j : Nat) (a : EvP), j < i → es[j]? = some a → dotNe a e) ∧ Hid (Chg [] w wr)) (fun v4 _ => k - (RowKit.intOf v4).toNat)
    case atStart => exact ⟨0, Nat.zero_le _, rfl, Lib.hid (fun j a h => by omega), PO⟩
    case round =>
     obtain ⟨i, hi, rfl, ND, PC⟩ := hrel
     clear PO
     have i0 : (0 : Int) ≤ (i : Int) := by omega
     by_cases hil : i < k
     ·
      have i1 : (i : Int) < (k : Int) := by omega
      have i2 : (i : Int) < (xs.length : Int) := by omega
      have i4 : i < xs.length := by omega
      have i3 : IntKind.i64.wrap ((i : Int) + 1) = (i : Int) + 1 := IntWalk.i64_in _ (by have := HN.out; omega)
      obtain ⟨y, f, ey, ef, ry⟩ := HX.out.at_ i4
      have EY := Lib.hid ey
      have EF := Lib.hid ef
      have YD : Hid (y.n = f.n ∧ y.s = f.s) := Lib.hid ⟨ry.n, ry.s⟩
      clear ey ef ry
      have HC : Hid (∀ w', Chg [] wr w' → _ ∧ _) := Lib.hid (fun w' hc => And.intro (evCells ((EA.out ▸ HA.out).chg (PC.out.trans hc) (by simp)) EX.out) (evCells ((EA.out ▸ HA.out).chg (PC.out.trans hc) (by simp)) EY.out))
      by_cases hd : y.n = x.n ∧ y.s = x.s
      ·
       skip
       have NO : Hid (stE es = 2) := Lib.hid (st_no_dot hil EF.out EE.out ⟨by rw [← YD.out.1, ← XD.out.1]; exact hd.1, by rw [← YD.out.2, ← XD.out.2.1]; exact hd.2⟩)
       have dq : ((y.n == x.n) : Bool) = true := by simpa using hd.1
       have dr : ((y.s == x.s) : Bool) = true := by simpa using hd.2
       clear hd
       go_upto_region 9 with fail
       refine wp_region_held_drew (S := fun w' => Chg [] wr w') (by kernel_rfl) (Chg.refl [] wr).drew (fun hHeld => ?_)
       refine sy 0 49 rfl rfl ?_; try simp only [Act.put, sA, s0, s1]
       refine sy 1 50 rfl rfl ?_; try simp only [Act.put, sA, s0, s1]
       refine sy 2 51 rfl rfl ?_; try simp only [Act.put, sA, s0, s1]
       refine sy 3 52 rfl rfl ?_; try simp only [Act.put, sA, s0, s1]
       refine sy 4 53 rfl rfl ?_ (hy := by (intro w hSw; (try dsimp only at hSw); have hq := HC.out _ hSw; obtain ⟨⟨q0, q1, q2, q3, q4, q5, q6⟩, p0, p1, p2, p3, p4, p5, p6⟩ := hq; go_simp; try with_reducible rfl))
       try simp only [Act.put, sA, s0, s1]
       refine sy 5 54 rfl rfl ?_; try simp only [Act.put, sA, s0, s1]
       refine sy 6 55 rfl rfl ?_; try simp only [Act.put, sA, s0, s1]
       refine sy 7 56 rfl rfl ?_; try simp only [Act.put, sA, s0, s1]
       refine sy 8 57 rfl rfl ?_; try simp only [Act.put, sA, s0, s1]
       refine sy 9 58 rfl rfl ?_ (hy := by (intro w hSw; (try dsimp only at hSw); have hq := HC.out _ hSw; obtain ⟨⟨q0, q1, q2, q3, q4, q5, q6⟩, p0, p1, p2, p3, p4, p5, p6⟩ := hq; go_simp; try with_reducible rfl))
       try simp only [Act.put, sA, s0, s1]
       refine sy 10 59 rfl rfl ?_; try simp only [Act.put, sA, s0, s1]
       refine wpAnyH_done (by kernel_rfl) ?_ _
       replace PC := Lib.hid (PC.out.trans hHeld)
       clear hHeld HC; go_wp2; go_ret
       have V2 : V = 2 := by rw [← HV.out]; exact NO.out
       rw [V2]
       exact ⟨rfl, PC.out⟩
      by_cases h1 : y.n = x.n
      ·
       skip
       have dq : ((y.n == x.n) : Bool) = true := by simpa using h1
       have dr : ((y.s == x.s) : Bool) = false := by simpa using (fun q => hd ⟨h1, q⟩)
       replace hd := Lib.hid hd
       have ND1 : Hid (∀ (j : Nat) (a : EvP), j < i + 1 → es[j]? = some a → dotNe a e) := Lib.hid (fun j a hj ha => by
        by_cases q : j < i
        ·
         exact ND.out j a q ha
        ·
         obtain rfl : j = i := by omega
         rw [EF.out] at ha
         cases ha
         intro t
         exact hd.out ⟨by rw [YD.out.1, XD.out.1]; exact t.1, by rw [YD.out.2, XD.out.2.1]; exact t.2⟩)
       clear h1 hd
       go_upto_region 9 with fail
       refine wp_region_held_drew (S := fun w' => Chg [] wr w') (by kernel_rfl) (Chg.refl [] wr).drew (fun hHeld => ?_)
       refine sy 0 49 rfl rfl ?_; try simp only [Act.put, sA, s0, s1]
       refine sy 1 50 rfl rfl ?_; try simp only [Act.put, sA, s0, s1]
       refine sy 2 51 rfl rfl ?_; try simp only [Act.put, sA, s0, s1]
       refine sy 3 52 rfl rfl ?_; try simp only [Act.put, sA, s0, s1]
       refine sy 4 53 rfl rfl ?_ (hy := by (intro w hSw; (try dsimp only at hSw); have hq := HC.out _ hSw; obtain ⟨⟨q0, q1, q2, q3, q4, q5, q6⟩, p0, p1, p2, p3, p4, p5, p6⟩ := hq; go_simp; try with_reducible rfl))
       try simp only [Act.put, sA, s0, s1]
       refine sy 5 54 rfl rfl ?_; try simp only [Act.put, sA, s0, s1]
       refine sy 6 55 rfl rfl ?_; try simp only [Act.put, sA, s0, s1]
       refine sy 7 56 rfl rfl ?_; try simp only [Act.put, sA, s0, s1]
       refine sy 8 57 rfl rfl ?_; try simp only [Act.put, sA, s0, s1]
       refine sy 9 58 rfl rfl ?_ (hy := by (intro w hSw; (try dsimp only at hSw); have hq := HC.out _ hSw; obtain ⟨⟨q0, q1, q2, q3, q4, q5, q6⟩, p0, p1, p2, p3, p4, p5, p6⟩ := hq; go_simp; try with_reducible rfl))
       try simp only [Act.put, sA, s0, s1]
       refine sy 10 59 rfl rfl ?_; try simp only [Act.put, sA, s0, s1]
       refine wpAnyH_done (by kernel_rfl) ?_ _
       replace PC := Lib.hid (PC.out.trans hHeld)
       clear hHeld HC; go_wp2; go_round
       case rel => exact ⟨i + 1, by omega, by go_num, ND1, PC⟩
       case measure => simp [RowKit.intOf]; omega
      have dq : ((y.n == x.n) : Bool) = false := by simpa using h1
      replace hd := Lib.hid hd
      have ND1 : Hid (∀ (j : Nat) (a : EvP), j < i + 1 → es[j]? = some a → dotNe a e) := Lib.hid (fun j a hj ha => by
       by_cases q : j < i
       ·
        exact ND.out j a q ha
       ·
        obtain rfl : j = i := by omega
        rw [EF.out] at ha
        cases ha
        intro t
        exact hd.out ⟨by rw [YD.out.1, XD.out.1]; exact t.1, by rw [YD.out.2, XD.out.2.1]; exact t.2⟩)
      clear h1 hd
      go_upto_region 9 with fail
      refine wp_region_held_drew (S := fun w' => Chg [] wr w') (by kernel_rfl) (Chg.refl [] wr).drew (fun hHeld => ?_)
      refine sy 0 49 rfl rfl ?_; try simp only [Act.put, sA, s0, s1]
      refine sy 1 50 rfl rfl ?_; try simp only [Act.put, sA, s0, s1]
      refine sy 2 51 rfl rfl ?_; try simp only [Act.put, sA, s0, s1]
      refine sy 3 52 rfl rfl ?_; try simp only [Act.put, sA, s0, s1]
      refine sy 4 53 rfl rfl ?_ (hy := by (intro w hSw; (try dsimp only at hSw); have hq := HC.out _ hSw; obtain ⟨⟨q0, q1, q2, q3, q4, q5, q6⟩, p0, p1, p2, p3, p4, p5, p6⟩ := hq; go_simp; try with_reducible rfl))
      try simp only [Act.put, sA, s0, s1]
      refine sy 5 54 rfl rfl ?_; try simp only [Act.put, sA, s0, s1]
      refine sy 6 55 rfl rfl ?_; try simp only [Act.put, sA, s0, s1]
      refine sy 7 56 rfl rfl ?_; try simp only [Act.put, sA, s0, s1]
      refine sy 8 57 rfl rfl ?_; try simp only [Act.put, sA, s0, s1]
      refine sy 9 58 rfl rfl ?_ (hy := by (intro w hSw; (try dsimp only at hSw); have hq := HC.out _ hSw; obtain ⟨⟨q0, q1, q2, q3, q4, q5, q6⟩, p0, p1, p2, p3, p4, p5, p6⟩ := hq; go_simp; try with_reducible rfl))
      try simp only [Act.put, sA, s0, s1]
      refine sy 10 59 rfl rfl ?_; try simp only [Act.put, sA, s0, s1]
      refine wpAnyH_done (by kernel_rfl) ?_ _
      replace PC := Lib.hid (PC.out.trans hHeld)
      clear hHeld HC; go_wp2; go_round
      case rel => exact ⟨i + 1, by omega, by go_num, ND1, PC⟩
      case measure => simp [RowKit.intOf]; omega
     ·
      obtain rfl : i = k := by omega
      have i1 : ¬ (i : Int) < (i : Int) := by omega
      have NE1 : Hid (NeTo es (i + 1)) := Lib.hid (ne_next NE.out EE.out ND.out)
      go_wp2; go_round
      case rel => exact ⟨i + 1, by omega, by go_num, AD1, NE1, PC⟩
      case measure => simp [RowKit.intOf]; omega
  ·
   obtain rfl : k = xs.length := by omega
   have j1 : ¬ (xs.length : Int) < (xs.length : Int) := by omega
   have PTH := Lib.hid (ktpaths_any wr A c xs es (HA.out.chg PC.out (by simp)) (HX.out.chg PC.out) (by have := HN.out; omega))
   go_wp2_with fail
   refine PTH.out.mono ?_
   rintro r w5 ⟨B, d, rfl, hr, hc⟩
   have RB := Lib.hid hr
   have PC5 := Lib.hid (PC.out.trans hc)
   have PN : Hid ((pathsE es).length ≤ 1000) := Lib.hid (by have := pathsE_len es; have := XL.out; have := HN.out; omega)
   obtain ⟨ps, hps⟩ : ∃ ps, pathsE es = ps := ⟨_, rfl⟩
   have PSE := Lib.hid hps
   rw [hps] at RB PN ⊢
   clear hr hc PTH PC hps; go_wp2
   go_loopw [6] (fun v6 wr => ∃ (i : Nat), i ≤ ps.length ∧ v6 = .int .i64 (i : Int) ∧ Hid (∀ p ∈ ps.take i, ShOk (atS es p)) ∧ Hid (Chg [] w5 wr)) (fun v6 _ => ps.length - (RowKit.intOf v6).toNat)
   case atStart => exact ⟨0, Nat.zero_le _, rfl, Lib.hid (by simp), Chg.refl _ _⟩
   case round =>
    obtain ⟨i, hi, rfl, SO, QC⟩ := hrel
    have i0 : (0 : Int) ≤ (i : Int) := by omega
    by_cases hil : i < ps.length
    ·
     have i1 : (i : Int) < (ps.length : Int) := by omega
     have i3 : IntKind.i64.wrap ((i : Int) + 1) = (i : Int) + 1 := IntWalk.i64_in _ (by have := PN.out; omega)
     obtain ⟨g4, o4, eB, _⟩ := RB.out.line (by omega)
     subst eB
     obtain ⟨p, hp⟩ : ∃ p, ps[i]? = some p := ⟨_, List.getElem?_eq_getElem hil⟩
     have z0 := textCells (RB.out.chg QC.out (by simp)) hp
     have HP := Lib.hid hp
     have C7 := Lib.hid (PC5.out.trans QC.out)
     have SH := Lib.hid (ktshelf_any wr A c xs es p (HA.out.chg C7.out (by simp)) (HX.out.chg C7.out) HN.out HS.out)
     clear hp; go_wp2_with fail; clear z0
     refine SH.out.mono ?_
     rintro r w7 ⟨A7, c7, zs, rfl, hr, he, hc⟩
     have LZ : Hid (zs.length ≤ 1000) := Lib.hid (by have a := he.1; have b := List.length_filter_le (fun e => decide (e.p = p)) es; have := XL.out; have := HN.out; omega)
     have CK := Lib.hid (kscheck_any w7 A7 c7 zs _ hr he (by have := LZ.out; omega) (fun e he => (HS.out e (List.mem_filter.1 he).1).1))
     have QC7 := Lib.hid (QC.out.trans hc)
     clear hr he hc SH QC; go_wp2_with fail
     refine CK.out.mono ?_
     rintro r w8 ⟨rfl, hc⟩
     have QC8 := Lib.hid (QC7.out.trans hc)
     clear hc CK QC7
     rcases shE_two (es.filter (fun e => decide (e.p = p))) with e1 | e1
     ·
      have SO1 : Hid (∀ q ∈ ps.take (i + 1), ShOk (atS es q)) := Lib.hid (fun q hq => by
       rw [List.take_add_one, HP.out] at hq
       rcases List.mem_append.1 hq with t | t
       ·
        exact SO.out q t
       ·
        simp at t
        subst t
        exact shE_zero.1 e1)
      rw [e1]
      clear e1; go_wp2; go_round
      case rel => exact ⟨i + 1, by omega, by go_num, SO1, QC8⟩
      case measure => simp [RowKit.intOf]; omega
     ·
      have NO : Hid (stE es = 2) := Lib.hid (st_no_shelf (by rw [PSE.out]; exact List.mem_of_getElem? HP.out) (fun q => by have t := shE_zero.2 q; unfold atS at t; rw [e1] at t; cases t))
      rw [e1]
      clear e1; go_wp2; go_ret
      have V2 : V = 2 := by rw [← HV.out]; exact NO.out
      rw [V2]
      exact ⟨rfl, PC5.out.trans QC8.out⟩
    ·
     obtain rfl : i = ps.length := by omega
     have i1 : ¬ (ps.length : Int) < (ps.length : Int) := by omega
     have V0 : Hid (V = 0) := Lib.hid (by
      rw [← HV.out]
      refine st_yes (fun j a b ha hb => AD.out j a b (by have := (List.getElem?_eq_some_iff.1 hb).1; have := XL.out; omega) ha hb) (fun i j a b ij ha hb => NE.out i j a b ij (by have := (List.getElem?_eq_some_iff.1 hb).1; have := XL.out; omega) ha hb) (fun p hp => SO.out p ?_)
      rw [List.take_length, ← PSE.out]
      exact hp)
     go_wp2; go_ret
     rw [V0.out]
     exact ⟨rfl, PC5.out.trans QC.out⟩
end
end Go.Proofs.YtomgjogkkoigbaaGreatDoor
