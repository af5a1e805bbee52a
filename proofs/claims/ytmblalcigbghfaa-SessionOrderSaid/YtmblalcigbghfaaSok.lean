/- The law's begins. SessionOrder. -/
import Derived.Test.YtmblalcigbghfaaSoa
import Derived.Test.YtmblalcigbghfaaSoj
namespace Go.Proofs.Ytmblalcigbghfaa
section
open Go.RowKit Go.Lib
set_option linter.unusedSimpArgs false
set_option linter.unusedVariables false


set_option maxHeartbeats 4000000 in
set_option maxRecDepth 100000 in
theorem begins_any (w : World) (A B : Option Addr) (c d : Nat) (D D' : List Nat) (l l' : List SlV) (ls ls' : List (List UInt8)) (h : OwnK lstTy w A c l) (h' : OwnK lstTy w B d l') (hp : ListP w D l ls) (hp' : ListP w D' l' ls') (hn : ls.length ≤ 1000000) (hq : ls'.length ≤ ls.length ∧ ls.take ls'.length = ls') :
    Calls Try.prog 23 #[.slice A l.length c, .slice B l'.length d] w fun e w' => e = .returned (.bool true) ∧ Chg [] w w' := by
  obtain ⟨q1, q2⟩ := hq
  have e1 := hp.1
  have e2 := hp'.1
  have hc := h.cap
  have HO := Lib.hid (h.take ls'.length)
  have HP : Hid (ListP w D (l.take ls'.length) ls') := Lib.hid ⟨by simp; omega, fun i x y hx hy => by
    have hi : i < ls'.length := (List.getElem?_eq_some_iff.1 hy).1
    rw [List.getElem?_take, if_pos hi] at hx
    refine hp.2 i x y hx ?_
    rw [← q2, List.getElem?_take, if_pos hi] at hy
    exact hy⟩
  have H2 := Lib.hid h'
  have P2 := Lib.hid hp'
  have hle : (l'.length : Int) ≤ (l.length : Int) := by omega
  have d1 : decide ((l'.length : Int) ≤ (l.length : Int)) = true := decide_eq_true hle
  have hlc : (l'.length : Int) ≤ (c : Int) := by omega
  have k0 : (0 : Int) ≤ (l'.length : Int) := by omega
  have hn2 : ls'.length ≤ 1000000 := by omega
  clear h h' hp hp' q2
  go_enter Try.func23, Try.ntmps23
  go_wp2_with fail
  rw [e2]
  refine (samelists_ok w A B c d D D' _ _ ls' HO.out H2.out HP.out P2.out hn2).mono ?_
  rintro r w1 ⟨rfl, hc1⟩
  have C1 := Lib.hid hc1
  clear hc1
  go_wp2
  go_ret
  exact ⟨rfl, C1.out⟩
end
section
open Go.RowKit Go.Lib
set_option linter.unusedSimpArgs false
set_option linter.unusedVariables false
set_option maxRecDepth 100000 in
set_option maxHeartbeats 8000000 in
theorem order_yes (hk : ∀ w : World, Calls Try.prog 18 #[] w fun e w' => e = .returned (.bool true) ∧ Chg [] w w') (w : World) (one other : Int) (A : Option Addr) (n c : Nat) (zs : List TurnV) (h : RdK turnTy w A n zs) (hu : ∀ x ∈ zs, TurnR w x) (hm : n * 48 ≤ 140737488351232) :
    Calls Try.prog 4 #[.int .i64 one, .int .i64 other, .slice A n c] w fun e w' => e = .returned (.bool true) ∧ Chg [] w w' := by
  have H := Lib.hid h
  have HU := Lib.hid hu
  have HM := Lib.hid hm
  have HK := Lib.hid hk
  clear h hu hm hk
  have p1 : 0 ≤ one % 1099511627776 ∧ one % 1099511627776 < 1099511627776 := ⟨Int.emod_nonneg _ (by decide), Int.emod_lt_of_pos _ (by decide)⟩
  have p2 : 0 ≤ other % 1099511627776 ∧ other % 1099511627776 < 1099511627776 := ⟨Int.emod_nonneg _ (by decide), Int.emod_lt_of_pos _ (by decide)⟩
  have v1 : IntKind.i64.wrap (1 + one % 1099511627776) = 1 + one % 1099511627776 := IntWalk.i64_in _ (by omega)
  have v2 : IntKind.i64.wrap (1 + other % 1099511627776) = 1 + other % 1099511627776 := IntWalk.i64_in _ (by omega)
  go_enter Try.func4, Try.ntmps4
  go_wp2_with fail
  refine (HK.out w).mono ?_
  rintro r w1 ⟨rfl, hc1⟩
  have C1 := Lib.hid hc1
  clear hc1
  go_wp2_with fail
  refine (pick_any w1 one 1099511627776 (by decide) (by decide)).mono ?_
  rintro r w1' ⟨rfl, rfl⟩
  go_wp2_with fail
  refine (pick_any w1 other 1099511627776 (by decide) (by decide)).mono ?_
  rintro r w1' ⟨rfl, rfl⟩
  go_wp2_with fail
  refine (met_two w1 (1 + one % 1099511627776) (1 + other % 1099511627776) (by omega) (by omega)).mono ?_
  rintro r w2 ⟨a, b, rfl, tw⟩
  have TW := Lib.hid tw
  clear tw v1 v2 p1 p2
  go_wp2_with fail
  have C2 : Hid (Chg [] w w2) := Lib.hid (C1.out.trans (by obtain ⟨_, _, _, _, _, _, _, q⟩ := TW.out; exact q))
  refine (longs_any w2 A n c zs (H.out.chg C2.out (by simp)) (by have := HM.out; omega) (fun x hx => by obtain ⟨ys, _, q⟩ := HU.out x hx; exact q)).mono ?_
  rintro r w3 ⟨⟨bb, rfl, hb⟩, rfl⟩
  have HB := Lib.hid hb
  clear hb
  cases bb
  case true =>
    go_wp2
    go_ret
    exact ⟨rfl, C2.out⟩
  have NL := Lib.hid (HB.out rfl)
  have LN := Lib.hid H.out.len
  go_upto_region 6 with fail
  have WB := Lib.hid TW.out.wl
  have CB : Hid (Chg [] w1 (w3.alloc (.cells #[.pointer (some ⟨a, 0, none⟩), .pointer (some ⟨b, 0, none⟩), .slice none 0 0, .slice none 0 0, .slice none 0 0, .slice none 0 0, .slice none 0 0] 55))) := Lib.hid (Chg.trans (by obtain ⟨_, _, _, _, _, _, _, q⟩ := TW.out; exact q) ((Chg.refl [] w3).alloc _))
  have GM := Lib.hid (good_met (1 + one % 1099511627776) (1 + other % 1099511627776))
  generalize hgg : w3.heap.size = g at *
  clear C2 TW HB hgg
  go_wp2_with fail
  go_loopw [11] (fun v wr => ∃ j : Nat, j ≤ n ∧ v = .int .i64 (j : Int) ∧ Hid (∃ wo, WL w1.heap.size wr g a b (60 + 4 * j) wo ∧ Good wo j) ∧ Hid (Chg [] w1 wr)) (fun v _ => n - (RowKit.intOf v).toNat)
  case atStart => exact ⟨0, Nat.zero_le _, rfl, Lib.hid ⟨_, WB.out, GM.out⟩, CB.out⟩
  case round =>
    clear WB CB GM
    obtain ⟨j, hj, rfl, HWG, CJ⟩ := hrel
    have i0 : (0 : Int) ≤ (j : Int) := by omega
    have nl := NL.out.1
    have ln := LN.out
    have i1 : IntKind.i64.wrap ((j : Int) + 1) = (j : Int) + 1 := IntWalk.i64_in _ (by omega)
    by_cases hlt : j < n
    · have i2 : (j : Int) < (n : Int) := by omega
      obtain ⟨x, hx⟩ : ∃ x, zs[j]? = some x := ⟨_, List.getElem?_eq_getElem (by omega)⟩
      obtain ⟨gz, oz, rfl, _⟩ := H.out.line (by omega)
      have rj := (H.out.chg C1.out (by simp)).chg CJ.out (by simp)
      obtain ⟨f1, f2, f3, f4⟩ := turnCells rj hx
      obtain ⟨ys, by_, sm⟩ := HU.out x (List.mem_of_getElem? hx)
      obtain ⟨x1, x2, x3, xA, xn, xd⟩ := x
      dsimp only at f1 f2 f3 f4 by_ sm
      have BY := Lib.hid by_
      have SM := Lib.hid sm
      clear hx rj by_ sm
      obtain ⟨wo, hwl, hgood⟩ := HWG.out
      have WJ := Lib.hid hwl
      have GJ := Lib.hid hgood
      have BJ := Lib.hid ((BY.out.chg C1.out (by simp)).chg CJ.out (by simp))
      have YL : Hid (ys = [] ∨ ∀ y, xA = some y → y.block < w1.heap.size) := Lib.hid (BY.out.chg C1.out (by simp)).old
      clear hwl hgood HWG
      go_wp2_with fail
      refine (lawturn_any w1 wr g a b (60 + 4 * j) j wo WJ.out CJ.out (by omega) GJ.out (by omega) x2 x3 xA xn xd x1 ys BJ.out YL.out SM.out).mono ?_
      rintro r w5 ⟨rfl, ⟨wo5, h5, g5⟩, c5⟩
      have W5 := Lib.hid h5
      have G5 := Lib.hid g5
      have C5 := Lib.hid c5
      clear h5 g5 c5 WJ GJ BJ YL f1 f2 f3 f4
      go_upto_region 10 with fail
      obtain ⟨Ar, cr, lr, P0, c0, l0, P1, c1, l1, Q0, d0, m0, Q1, d1, m1, Aa, Da, Ab, Db, F, hw⟩ := W5.out
      have HW := Lib.hid hw
      clear hw W5
      have z3 := cell_of HW.out.hg 3
      have z4 := cell_of HW.out.hg 4
      have z5 := cell_of HW.out.hg 5
      have z6 := cell_of HW.out.hg 6
      simp only [List.getElem?_toArray, List.getElem?_cons_succ, List.getElem?_cons_zero] at z3 z4 z5 z6
      refine wp_region_held_drew (S := fun w' => w'.cell? ⟨g, 3, none⟩ = some (.slice P0 l0.length c0) ∧ w'.cell? ⟨g, 4, none⟩ = some (.slice P1 l1.length c1) ∧ w'.cell? ⟨g, 5, none⟩ = some (.slice Q0 m0.length d0) ∧ w'.cell? ⟨g, 6, none⟩ = some (.slice Q1 m1.length d1)) (by kernel_rfl) ⟨z3, z4, z5, z6⟩ (fun hHeld => ?_)
      have HS := Lib.hid (fun (w' : World) (hc : Chg [] w5 w') => (⟨hc.cell z3 (by simp), hc.cell z4 (by simp), hc.cell z5 (by simp), hc.cell z6 (by simp)⟩ : w'.cell? ⟨g, 3, none⟩ = some (.slice P0 l0.length c0) ∧ w'.cell? ⟨g, 4, none⟩ = some (.slice P1 l1.length c1) ∧ w'.cell? ⟨g, 5, none⟩ = some (.slice Q0 m0.length d0) ∧ w'.cell? ⟨g, 6, none⟩ = some (.slice Q1 m1.length d1)))
      have CD := Lib.hid (Chg.refl [] w5).drew
      clear z3 z4 z5 z6
      generalize w5.drew = wd at *
      refine sy 0 59 rfl rfl ?_
      try simp only [Act.put, sA, s0, s1]
      refine sy 1 60 rfl rfl ?_
      try simp only [Act.put, sA, s0, s1]
      refine sy 2 61 rfl rfl ?_
      try simp only [Act.put, sA, s0, s1]
      refine sy 3 62 rfl rfl ?_
      try simp only [Act.put, sA, s0, s1]
      refine sy 4 63 rfl rfl ?_ (hy := by (intro w hSw; (try dsimp only at hSw); (obtain ⟨q1, q2, q3, q4⟩ := hSw); go_simp; try with_reducible rfl))
      try simp only [Act.put, sA, s0, s1]
      refine sy 5 64 rfl rfl ?_
      try simp only [Act.put, sA, s0, s1]
      refine sy 6 65 rfl rfl ?_
      try simp only [Act.put, sA, s0, s1]
      refine sy 7 66 rfl rfl ?_
      try simp only [Act.put, sA, s0, s1]
      refine sy 8 67 rfl rfl ?_
      try simp only [Act.put, sA, s0, s1]
      refine sy 9 68 rfl rfl ?_ (hy := by (intro w hSw; (try dsimp only at hSw); (obtain ⟨q1, q2, q3, q4⟩ := hSw); go_simp; try with_reducible rfl))
      try simp only [Act.put, sA, s0, s1]
      refine wpAnyH_ready (rs := [10]) (by kernel_rfl) (by simp) ?_
      refine AllReadyH.cons rfl (fun K hK => ?_) AllReadyH.nil
      replace hK := Lib.hid hK
      go_simp
      refine (begins_any wd P0 Q1 c0 d1 F F l0 m1 wo5.s0 wo5.t1 (HW.out.o0.chg CD.out (by simp)) (HW.out.q1.chg CD.out (by simp)) (HW.out.p0.chg CD.out (by simp)) (HW.out.r1.chg CD.out (by simp)) (by have := G5.out.l0; omega) (way_begins G5.out.ab)).mono ?_
      rintro r w6 ⟨rfl, h6⟩
      have C6 := Lib.hid (CD.out.trans h6)
      clear h6 hHeld
      refine hK.out _ _ (HS.out w6 C6.out) (fun hHeld => ?_)
      clear hK K
      try simp only [Act.put, sA, s0, s1]
      refine sy 11 70 rfl rfl ?_
      try simp only [Act.put, sA, s0, s1]
      refine sy 12 71 rfl rfl ?_
      try simp only [Act.put, sA, s0, s1]
      refine sy 13 72 rfl rfl ?_
      try simp only [Act.put, sA, s0, s1]
      refine sy 14 73 rfl rfl ?_
      try simp only [Act.put, sA, s0, s1]
      refine sy 15 74 rfl rfl ?_
      try simp only [Act.put, sA, s0, s1]
      refine sy 16 75 rfl rfl ?_
      try simp only [Act.put, sA, s0, s1]
      refine sy 17 76 rfl rfl ?_ (hy := by (intro w hSw; (try dsimp only at hSw); (obtain ⟨q1, q2, q3, q4⟩ := hSw); go_simp; try with_reducible rfl))
      try simp only [Act.put, sA, s0, s1]
      refine sy 18 77 rfl rfl ?_
      try simp only [Act.put, sA, s0, s1]
      refine sy 19 78 rfl rfl ?_
      try simp only [Act.put, sA, s0, s1]
      refine sy 20 79 rfl rfl ?_
      try simp only [Act.put, sA, s0, s1]
      refine sy 21 80 rfl rfl ?_
      try simp only [Act.put, sA, s0, s1]
      refine sy 22 81 rfl rfl ?_ (hy := by (intro w hSw; (try dsimp only at hSw); (obtain ⟨q1, q2, q3, q4⟩ := hSw); go_simp; try with_reducible rfl))
      try simp only [Act.put, sA, s0, s1]
      refine wpAnyH_ready (rs := [23]) (by kernel_rfl) (by simp) ?_
      refine AllReadyH.cons rfl (fun K hK => ?_) AllReadyH.nil
      replace hK := Lib.hid hK
      go_simp
      refine (begins_any w6 P1 Q0 c1 d0 F F l1 m0 wo5.s1 wo5.t0 (HW.out.o1.chg C6.out (by simp)) (HW.out.q0.chg C6.out (by simp)) (HW.out.p1.chg C6.out (by simp)) (HW.out.r0.chg C6.out (by simp)) (by have := G5.out.l1; omega) (way_begins G5.out.ba)).mono ?_
      rintro r w7 ⟨rfl, h7⟩
      have C7 := Lib.hid (C6.out.trans h7)
      clear h7 hHeld
      refine hK.out _ _ (HS.out w7 C7.out) (fun hHeld => ?_)
      clear hK K
      try simp only [Act.put, sA, s0, s1]
      refine sy 24 83 rfl rfl ?_
      try simp only [Act.put, sA, s0, s1]
      refine sy 25 84 rfl rfl ?_
      try simp only [Act.put, sA, s0, s1]
      refine wpAnyH_done (by kernel_rfl) ?_ _
      have WF : Hid (∃ wo, WL w1.heap.size w7 g a b (60 + 4 * (j + 1)) wo ∧ Good wo (j + 1)) := Lib.hid ⟨wo5, ⟨_, _, _, _, _, _, _, _, _, _, _, _, _, _, _, _, _, _, _, _, HW.out.off C7.out (by simp)⟩, G5.out⟩
      go_wp2
      go_round
      case measure => simp [RowKit.intOf]; omega
      exact ⟨j + 1, by omega, by go_num, WF.out, C5.out.trans C7.out⟩
    · have i2 : ¬ (j : Int) < (n : Int) := by omega
      obtain ⟨wo, hwl, hgood⟩ := HWG.out
      obtain ⟨Ar, cr, lr, P0, c0, l0, P1, c1, l1, Q0, d0, m0, Q1, d1, m1, Aa, Da, Ab, Db, F, hw⟩ := hwl
      have HW := Lib.hid hw
      have GJ := Lib.hid hgood
      clear hw hgood HWG
      go_wp2_with fail
      refine (turnsL HW.out.sa).mono ?_
      rintro r w6 ⟨rfl, rfl⟩
      have t1 := GJ.out.tu.1
      have t2 := GJ.out.tu.2
      rw [t1]
      go_wp2_with fail
      refine (turnsL HW.out.sb).mono ?_
      rintro r w7 ⟨rfl, rfl⟩
      rw [t2]
      go_wp2
      go_ret
      exact ⟨rfl, C1.out.trans CJ.out⟩
end
end Go.Proofs.Ytmblalcigbghfaa
