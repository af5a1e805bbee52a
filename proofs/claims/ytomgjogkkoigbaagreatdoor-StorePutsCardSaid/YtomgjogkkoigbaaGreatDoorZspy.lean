/- The document's put (shelf). The document's Join. The document's Put of a shelf. -/
import Derived.Test.YtomgjogkkoigbaaGreatDoorZspr
import Derived.Test.YtomgjogkkoigbaaGreatDoorZspw
import Derived.Test.YtomgjogkkoigbaaGreatDoorZspj
import Derived.Test.YtomgjogkkoigbaaGreatDoorZspb
import Derived.Deep.Cut
import Derived.BigQuiet
import Derived.Test.YtomgjogkkoigbaaGreatDoorZspx
set_option linter.unusedSimpArgs false
set_option linter.unusedVariables false
namespace Go.Proofs.YtomgjogkkoigbaaGreatDoor
section
open Go.RowKit Go.Lib


theorem put_stay {l : List EvP} {e : EvP} (h : stayE l e = true) : putE l e = l := by unfold putE; rw [if_pos h]
set_option maxRecDepth 100000 in
set_option maxHeartbeats 16000000 in
theorem ksput_any (w : World) (A : Option Addr) (c : Nat) (xs : List EvT) (es : List EvP) (y : EvT) (f : EvP) (h : RdK evTy w A xs.length xs) (hx : EvsR w xs es) (hn : xs.length ≤ 1000) (hs : ∀ e ∈ es, EvSm e) (hy : EvR w y f) (ht : EvSm f) (hu : es.Pairwise LtEv) :
  Calls Tryz.prog 175 #[.slice A xs.length c, .agg #[.int .i64 y.n, .int .i64 y.s, .string y.p, .int .i64 y.k, .int .i64 y.m, .slice y.A y.l y.c, .slice y.B y.bl y.bc]] w fun r w' => ∃ (A' : Option Addr) (c' : Nat) (ys : List EvT), r = .returned (.slice A' ys.length c') ∧ ys.length ≤ xs.length + 1 ∧ EvsR w ys (putE es f) ∧ RdK evTy w' A' ys.length ys ∧ Chg [] w w' := by

 obtain ⟨w1, hw1, c1, b1⟩ := news1 w (.cells #[.int .i64 y.n, .int .i64 y.s, .string y.p, .int .i64 y.k, .int .i64 y.m, .slice y.A y.l y.c, .slice y.B y.bl y.bc] 30)
 have W1 := Lib.hid hw1
 have C1 := Lib.hid c1
 have B1 := Lib.hid b1
 have HA := Lib.hid (h.chg c1 (by simp))
 have HX := Lib.hid hx
 have HN := Lib.hid hn
 have HS := Lib.hid hs
 have HY := Lib.hid hy
 have HT := Lib.hid ht
 have HU := Lib.hid hu
 have LW : Hid (w.heap.size < w1.heap.size) := Lib.hid (lt_of_heap b1)
 clear hw1 c1 b1 h hx hn hs hy ht hu
 go_enter Tryz.func175, Tryz.ntmps175
 go_upto_region 1 with fail
 rw [← W1.out]
 generalize w.heap.size = g1 at *
 clear W1; go_wp2
 go_loopw [5] (fun v5 wr => ∃ (k : Nat), k ≤ xs.length ∧ v5 = .int .i64 k ∧ Hid (∀ x ∈ es.take k, ¬ (x.n = f.n ∧ x.s = f.s) ∧ aheadP f x = false) ∧ Hid (Chg [] w1 wr)) (fun v5 _ => xs.length - (RowKit.intOf v5).toNat)
 case atStart => exact ⟨0, Nat.zero_le _, rfl, Lib.hid (by simp), Chg.refl _ _⟩
 case round =>
  obtain ⟨k, hk, rfl, NS, PC⟩ := hrel
  have j0 : (0 : Int) ≤ (k : Int) := by omega
  by_cases hlt : k < xs.length
  ·
   have j1 : (k : Int) < (xs.length : Int) := by omega
   have j3 : IntKind.i64.wrap ((k : Int) + 1) = (k : Int) + 1 := IntWalk.i64_in _ (by have := HN.out; omega)
   obtain ⟨g3, o3, eA, _⟩ := HA.out.line (by omega)
   subst eA
   obtain ⟨x, e, ex, ee, rx⟩ := HX.out.at_ hlt
   have EX := Lib.hid ex
   have EE := Lib.hid ee
   have RX1 := Lib.hid rx
   have ES1 := Lib.hid (HS.out e (List.mem_of_getElem? ee))
   have XD : Hid (x.n = e.n ∧ x.s = e.s ∧ y.n = f.n ∧ y.s = f.s) := Lib.hid ⟨rx.n, rx.s, HY.out.n, HY.out.s⟩
   clear ex ee rx
   go_upto_region 4 with fail
   have HB : Hid (∀ w', Chg [] wr w' → (w'.cell? ⟨g1, 0, none⟩ = some (.int .i64 y.n) ∧ w'.cell? ⟨g1, 1, none⟩ = some (.int .i64 y.s) ∧ w'.cell? ⟨g1, 2, none⟩ = some (.string y.p) ∧ w'.cell? ⟨g1, 3, none⟩ = some (.int .i64 y.k) ∧ w'.cell? ⟨g1, 4, none⟩ = some (.int .i64 y.m) ∧ w'.cell? ⟨g1, 5, none⟩ = some (.slice y.A y.l y.c) ∧ w'.cell? ⟨g1, 6, none⟩ = some (.slice y.B y.bl y.bc)) ∧ (w'.cell? ⟨g3, o3 + k * 7, none⟩ = some (.int .i64 x.n) ∧ w'.cell? ⟨g3, o3 + k * 7 + 1, none⟩ = some (.int .i64 x.s) ∧ w'.cell? ⟨g3, o3 + k * 7 + 2, none⟩ = some (.string x.p) ∧ w'.cell? ⟨g3, o3 + k * 7 + 3, none⟩ = some (.int .i64 x.k) ∧ w'.cell? ⟨g3, o3 + k * 7 + 4, none⟩ = some (.int .i64 x.m) ∧ w'.cell? ⟨g3, o3 + k * 7 + 5, none⟩ = some (.slice x.A x.l x.c) ∧ w'.cell? ⟨g3, o3 + k * 7 + 6, none⟩ = some (.slice x.B x.bl x.bc))) := Lib.hid (fun w' hc => by
    have b := hc.at_ (PC.out.at_ B1.out (by simp)) (by simp)
    exact ⟨⟨cell_of b 0, cell_of b 1, cell_of b 2, cell_of b 3, cell_of b 4, cell_of b 5, cell_of b 6⟩, evCells (HA.out.chg (PC.out.trans hc) (by simp)) EX.out⟩)
   have AHD : Hid (∀ w', Chg [] wr w' → Calls Tryz.prog 120 #[.agg #[.int .i64 y.n, .int .i64 y.s, .string y.p, .int .i64 y.k, .int .i64 y.m, .slice y.A y.l y.c, .slice y.B y.bl y.bc], .agg #[.int .i64 x.n, .int .i64 x.s, .string x.p, .int .i64 x.k, .int .i64 x.m, .slice x.A x.l x.c, .slice x.B x.bl x.bc]] w' fun r w2 => r = .returned (.bool (aheadP f e)) ∧ Chg [] w' w2) := Lib.hid (fun w' hc => veahead_any w' y x f e (HY.out.chg (C1.out.trans (PC.out.trans hc))) (RX1.out.chg (C1.out.trans (PC.out.trans hc))) HT.out ES1.out)
   by_cases hd : x.n = y.n ∧ x.s = y.s
   ·
    have ST : Hid (putE es f = es) := Lib.hid (put_stay (stay_iff.2 ⟨e, List.mem_of_getElem? EE.out, .inl ⟨by rw [← XD.out.1, ← XD.out.2.2.1]; exact hd.1, by rw [← XD.out.2.1, ← XD.out.2.2.2]; exact hd.2⟩⟩))
    have dq : ((x.n == y.n) : Bool) = true := by simpa using hd.1
    have dr : ((x.s == y.s) : Bool) = true := by simpa using hd.2
    clear hd
    refine wp_region_held_drew (S := fun w' => Chg [] wr w') (by kernel_rfl) (Chg.refl [] wr).drew (fun hHeld => ?_)
    refine sy 0 15 rfl rfl ?_; try simp only [Act.put, sA, s0, s1]
    refine sy 1 16 rfl rfl ?_; try simp only [Act.put, sA, s0, s1]
    refine sy 2 17 rfl rfl ?_; try simp only [Act.put, sA, s0, s1]
    refine sy 3 18 rfl rfl ?_; try simp only [Act.put, sA, s0, s1]
    refine sy 4 19 rfl rfl ?_ (hy := by (intro w hSw; (try dsimp only at hSw); have hq := HB.out _ hSw; obtain ⟨⟨b0, b1, b2, b3, b4, b5, b6⟩, q0, q1, q2, q3, q4, q5, q6⟩ := hq; go_simp; try with_reducible rfl))
    try simp only [Act.put, sA, s0, s1]
    refine sy 5 20 rfl rfl ?_; try simp only [Act.put, sA, s0, s1]
    refine sy 6 21 rfl rfl ?_ (hy := by (intro w hSw; (try dsimp only at hSw); have hq := HB.out _ hSw; obtain ⟨⟨b0, b1, b2, b3, b4, b5, b6⟩, q0, q1, q2, q3, q4, q5, q6⟩ := hq; go_simp; try with_reducible rfl))
    try simp only [Act.put, sA, s0, s1]
    refine sy 7 22 rfl rfl ?_; try simp only [Act.put, sA, s0, s1]
    refine sy 8 23 rfl rfl ?_; try simp only [Act.put, sA, s0, s1]
    refine sn 9 24 rfl rfl ?_; try simp only [Act.put, sA, s0, s1]
    refine sn 10 25 rfl rfl ?_; try simp only [Act.put, sA, s0, s1]
    refine sn 11 26 rfl rfl ?_; try simp only [Act.put, sA, s0, s1]
    refine sn 12 27 rfl rfl ?_; try simp only [Act.put, sA, s0, s1]
    refine sn 13 28 rfl rfl ?_; try simp only [Act.put, sA, s0, s1]
    refine sn 14 29 rfl rfl ?_; try simp only [Act.put, sA, s0, s1]
    refine sy 15 30 rfl rfl ?_; try simp only [Act.put, sA, s0, s1]
    refine wpAnyH_done (by kernel_rfl) ?_ _
    have PE := Lib.hid (PC.out.trans hHeld)
    clear hHeld HB AHD; go_wp2; go_ret
    exact ⟨_, c, xs, rfl, Nat.le_succ _, by rw [ST.out]; exact HX.out, HA.out.chg PE.out (by simp), C1.out.trans PE.out⟩
   by_cases h1 : x.n = y.n
   ·
    have dq : ((x.n == y.n) : Bool) = true := by simpa using h1
    have dr : ((x.s == y.s) : Bool) = false := by simpa using (fun q => hd ⟨h1, q⟩)
    replace hd := Lib.hid hd
    clear h1
    refine wp_region_held_drew (S := fun w' => Chg [] wr w') (by kernel_rfl) (Chg.refl [] wr).drew (fun hHeld => ?_)
    refine sy 0 15 rfl rfl ?_; try simp only [Act.put, sA, s0, s1]
    refine sy 1 16 rfl rfl ?_; try simp only [Act.put, sA, s0, s1]
    refine sy 2 17 rfl rfl ?_; try simp only [Act.put, sA, s0, s1]
    refine sy 3 18 rfl rfl ?_; try simp only [Act.put, sA, s0, s1]
    refine sy 4 19 rfl rfl ?_ (hy := by (intro w hSw; (try dsimp only at hSw); have hq := HB.out _ hSw; obtain ⟨⟨b0, b1, b2, b3, b4, b5, b6⟩, q0, q1, q2, q3, q4, q5, q6⟩ := hq; go_simp; try with_reducible rfl))
    try simp only [Act.put, sA, s0, s1]
    refine sy 5 20 rfl rfl ?_; try simp only [Act.put, sA, s0, s1]
    refine sy 6 21 rfl rfl ?_ (hy := by (intro w hSw; (try dsimp only at hSw); have hq := HB.out _ hSw; obtain ⟨⟨b0, b1, b2, b3, b4, b5, b6⟩, q0, q1, q2, q3, q4, q5, q6⟩ := hq; go_simp; try with_reducible rfl))
    try simp only [Act.put, sA, s0, s1]
    refine sy 7 22 rfl rfl ?_; try simp only [Act.put, sA, s0, s1]
    refine sy 8 23 rfl rfl ?_; try simp only [Act.put, sA, s0, s1]
    refine sy 9 24 rfl rfl ?_ (hy := by (intro w hSw; (try dsimp only at hSw); have hq := HB.out _ hSw; obtain ⟨⟨b0, b1, b2, b3, b4, b5, b6⟩, q0, q1, q2, q3, q4, q5, q6⟩ := hq; go_simp; try with_reducible rfl))
    try simp only [Act.put, sA, s0, s1]
    refine sy 10 25 rfl rfl ?_; try simp only [Act.put, sA, s0, s1]
    refine sy 11 26 rfl rfl ?_; try simp only [Act.put, sA, s0, s1]
    refine sy 12 27 rfl rfl ?_; try simp only [Act.put, sA, s0, s1]
    refine sy 13 28 rfl rfl ?_ (hy := by (intro w hSw; (try dsimp only at hSw); have hq := HB.out _ hSw; obtain ⟨⟨b0, b1, b2, b3, b4, b5, b6⟩, q0, q1, q2, q3, q4, q5, q6⟩ := hq; go_simp; try with_reducible rfl))
    try simp only [Act.put, sA, s0, s1]
    refine wpAnyH_ready (rs := [14]) (by kernel_rfl) (by simp) ?_; refine AllReadyH.cons rfl (fun K hK => ?_) AllReadyH.nil; replace hK := Lib.hid hK; go_simp
    refine (AHD.out _ hHeld).mono ?_
    rintro r w9 ⟨rfl, hc⟩
    have C9 := Lib.hid (hHeld.trans hc)
    clear hc hHeld
    refine hK.out _ _ C9.out (fun hHeld => ?_)
    clear hK K; try simp only [Act.put, sA, s0, s1]
    refine sy 15 30 rfl rfl ?_; try simp only [Act.put, sA, s0, s1]
    refine wpAnyH_done (by kernel_rfl) ?_ _; clear HB AHD
    have PE := Lib.hid (PC.out.trans C9.out)
    clear hHeld
    rcases ha : aheadP f e with _ | _
    ·
     have NS1 : Hid (∀ x ∈ es.take (k + 1), ¬ (x.n = f.n ∧ x.s = f.s) ∧ aheadP f x = false) := Lib.hid (fun z hz => by
      rw [List.take_add_one, EE.out] at hz
      rcases List.mem_append.1 hz with q | q
      ·
       exact NS.out z q
      ·
       simp at q; subst q; exact ⟨fun q => hd.out ⟨by rw [XD.out.1, XD.out.2.2.1]; exact q.1, by rw [XD.out.2.1, XD.out.2.2.2]; exact q.2⟩, ha⟩)
     clear ha NS; go_wp2; go_round
     case rel => exact ⟨k + 1, by omega, by go_num, NS1, PE⟩
     case measure => simp [RowKit.intOf]; omega
    ·
     have ST : Hid (putE es f = es) := Lib.hid (put_stay (stay_iff.2 ⟨e, List.mem_of_getElem? EE.out, .inr ha⟩))
     clear ha; go_wp2; go_ret
     exact ⟨_, c, xs, rfl, Nat.le_succ _, by rw [ST.out]; exact HX.out, HA.out.chg PE.out (by simp), C1.out.trans PE.out⟩
   have dq : ((x.n == y.n) : Bool) = false := by simpa using h1
   replace hd := Lib.hid hd
   clear h1
   refine wp_region_held_drew (S := fun w' => Chg [] wr w') (by kernel_rfl) (Chg.refl [] wr).drew (fun hHeld => ?_)
   refine sy 0 15 rfl rfl ?_; try simp only [Act.put, sA, s0, s1]
   refine sy 1 16 rfl rfl ?_; try simp only [Act.put, sA, s0, s1]
   refine sy 2 17 rfl rfl ?_; try simp only [Act.put, sA, s0, s1]
   refine sy 3 18 rfl rfl ?_; try simp only [Act.put, sA, s0, s1]
   refine sy 4 19 rfl rfl ?_ (hy := by (intro w hSw; (try dsimp only at hSw); have hq := HB.out _ hSw; obtain ⟨⟨b0, b1, b2, b3, b4, b5, b6⟩, q0, q1, q2, q3, q4, q5, q6⟩ := hq; go_simp; try with_reducible rfl))
   try simp only [Act.put, sA, s0, s1]
   refine sy 5 20 rfl rfl ?_; try simp only [Act.put, sA, s0, s1]
   refine sy 6 21 rfl rfl ?_ (hy := by (intro w hSw; (try dsimp only at hSw); have hq := HB.out _ hSw; obtain ⟨⟨b0, b1, b2, b3, b4, b5, b6⟩, q0, q1, q2, q3, q4, q5, q6⟩ := hq; go_simp; try with_reducible rfl))
   try simp only [Act.put, sA, s0, s1]
   refine sy 7 22 rfl rfl ?_; try simp only [Act.put, sA, s0, s1]
   refine sy 8 23 rfl rfl ?_; try simp only [Act.put, sA, s0, s1]
   refine sy 9 24 rfl rfl ?_ (hy := by (intro w hSw; (try dsimp only at hSw); have hq := HB.out _ hSw; obtain ⟨⟨b0, b1, b2, b3, b4, b5, b6⟩, q0, q1, q2, q3, q4, q5, q6⟩ := hq; go_simp; try with_reducible rfl))
   try simp only [Act.put, sA, s0, s1]
   refine sy 10 25 rfl rfl ?_; try simp only [Act.put, sA, s0, s1]
   refine sy 11 26 rfl rfl ?_; try simp only [Act.put, sA, s0, s1]
   refine sy 12 27 rfl rfl ?_; try simp only [Act.put, sA, s0, s1]
   refine sy 13 28 rfl rfl ?_ (hy := by (intro w hSw; (try dsimp only at hSw); have hq := HB.out _ hSw; obtain ⟨⟨b0, b1, b2, b3, b4, b5, b6⟩, q0, q1, q2, q3, q4, q5, q6⟩ := hq; go_simp; try with_reducible rfl))
   try simp only [Act.put, sA, s0, s1]
   refine wpAnyH_ready (rs := [14]) (by kernel_rfl) (by simp) ?_; refine AllReadyH.cons rfl (fun K hK => ?_) AllReadyH.nil; replace hK := Lib.hid hK; go_simp
   refine (AHD.out _ hHeld).mono ?_
   rintro r w9 ⟨rfl, hc⟩
   have C9 := Lib.hid (hHeld.trans hc)
   clear hc hHeld
   refine hK.out _ _ C9.out (fun hHeld => ?_)
   clear hK K; try simp only [Act.put, sA, s0, s1]
   refine sy 15 30 rfl rfl ?_; try simp only [Act.put, sA, s0, s1]
   refine wpAnyH_done (by kernel_rfl) ?_ _; clear HB AHD
   have PE := Lib.hid (PC.out.trans C9.out)
   clear hHeld
   rcases ha : aheadP f e with _ | _
   ·
    have NS1 : Hid (∀ x ∈ es.take (k + 1), ¬ (x.n = f.n ∧ x.s = f.s) ∧ aheadP f x = false) := Lib.hid (fun z hz => by
     rw [List.take_add_one, EE.out] at hz
     rcases List.mem_append.1 hz with q | q
     ·
      exact NS.out z q
     ·
      simp at q; subst q; exact ⟨fun q => hd.out ⟨by rw [XD.out.1, XD.out.2.2.1]; exact q.1, by rw [XD.out.2.1, XD.out.2.2.2]; exact q.2⟩, ha⟩)
    clear ha NS; go_wp2; go_round
    case rel => exact ⟨k + 1, by omega, by go_num, NS1, PE⟩
    case measure => simp [RowKit.intOf]; omega
   ·
    have ST : Hid (putE es f = es) := Lib.hid (put_stay (stay_iff.2 ⟨e, List.mem_of_getElem? EE.out, .inr ha⟩))
    clear ha; go_wp2; go_ret
    exact ⟨_, c, xs, rfl, Nat.le_succ _, by rw [ST.out]; exact HX.out, HA.out.chg PE.out (by simp), C1.out.trans PE.out⟩
  ·
   obtain rfl : k = xs.length := by omega
   have j1 : ¬ (xs.length : Int) < (xs.length : Int) := by omega
   have NST : Hid (stayE es f = false) := Lib.hid (by
    rcases q : stayE es f with _ | _
    ·
     rfl
    ·
     obtain ⟨x, hx, hh⟩ := stay_iff.1 q
     have := NS.out x (by rw [HX.out.1, List.take_length]; exact hx)
     rcases hh with a | a
     ·
      exact absurd a this.1
     ·
      rw [this.2] at a; cases a)
   clear NS; go_wp2
   go_loopw [6, 7, 8] (fun v6 v7 v8 wr => ∃ (k : Nat) (A1 : Option Addr) (d1 : Nat) (ys : List EvT) (fs : List EvP) (dn : Bool), k ≤ xs.length ∧ ys.length ≤ k + dn.toNat ∧ v6 = .slice A1 ys.length d1 ∧ v7 = .bool dn ∧ v8 = .int .i64 k ∧ Hid ((es.take k).foldl (stepD f) ([], false) = (fs, dn)) ∧ Hid (OwnK evTy wr A1 d1 ys) ∧ Hid (EvsR w ys fs) ∧ Hid (∀ a, A1 = some a → w1.heap.size ≤ a.block) ∧ Hid (Chg [] w1 wr)) (fun _ _ v8 _ => xs.length - (RowKit.intOf v8).toNat)
   case atStart => exact ⟨0, none, 0, [], [], false, Nat.zero_le _, Nat.zero_le _, rfl, rfl, rfl, Lib.hid rfl, OwnK.none_ _, Lib.hid (EvsR.nil _), Lib.hid (by simp), PC⟩
   case round =>
    obtain ⟨k, A1, d1, ys, fs, dn, hk, hyl, rfl, rfl, rfl, FD, RO, RE, RN, PC⟩ := hrel
    have j0 : (0 : Int) ≤ (k : Int) := by omega
    by_cases hlt : k < xs.length
    ·
     have j1 : (k : Int) < (xs.length : Int) := by omega
     have j3 : IntKind.i64.wrap ((k : Int) + 1) = (k : Int) + 1 := IntWalk.i64_in _ (by have := HN.out; omega)
     obtain ⟨g3, o3, eA, _⟩ := HA.out.line (by omega)
     subst eA
     obtain ⟨x, e, ex, ee, rx⟩ := HX.out.at_ hlt
     have EX := Lib.hid ex
     have RX1 := Lib.hid rx
     have ES1 := Lib.hid (HS.out e (List.mem_of_getElem? ee))
     have LE : Hid (LtEv f e ↔ LtD y.n y.s x.n x.s) := Lib.hid (by unfold LtEv; rw [rx.n, rx.s, HY.out.n, HY.out.s])
     have FK : Hid ((es.take (k + 1)).foldl (stepD f) ([], false) = stepD f (fs, dn) e) := Lib.hid (by rw [List.take_add_one, ee, List.foldl_append, FD.out]; rfl)
     clear ex ee rx FD
     go_upto_region 11 with fail
     have HB : Hid (∀ w', Chg [] wr w' → (w'.cell? ⟨g1, 0, none⟩ = some (.int .i64 y.n) ∧ w'.cell? ⟨g1, 1, none⟩ = some (.int .i64 y.s) ∧ w'.cell? ⟨g1, 2, none⟩ = some (.string y.p) ∧ w'.cell? ⟨g1, 3, none⟩ = some (.int .i64 y.k) ∧ w'.cell? ⟨g1, 4, none⟩ = some (.int .i64 y.m) ∧ w'.cell? ⟨g1, 5, none⟩ = some (.slice y.A y.l y.c) ∧ w'.cell? ⟨g1, 6, none⟩ = some (.slice y.B y.bl y.bc)) ∧ (w'.cell? ⟨g3, o3 + k * 7, none⟩ = some (.int .i64 x.n) ∧ w'.cell? ⟨g3, o3 + k * 7 + 1, none⟩ = some (.int .i64 x.s) ∧ w'.cell? ⟨g3, o3 + k * 7 + 2, none⟩ = some (.string x.p) ∧ w'.cell? ⟨g3, o3 + k * 7 + 3, none⟩ = some (.int .i64 x.k) ∧ w'.cell? ⟨g3, o3 + k * 7 + 4, none⟩ = some (.int .i64 x.m) ∧ w'.cell? ⟨g3, o3 + k * 7 + 5, none⟩ = some (.slice x.A x.l x.c) ∧ w'.cell? ⟨g3, o3 + k * 7 + 6, none⟩ = some (.slice x.B x.bl x.bc))) := Lib.hid (fun w' hc => by
      have b := hc.at_ (PC.out.at_ B1.out (by simp)) (by simp)
      exact ⟨⟨cell_of b 0, cell_of b 1, cell_of b 2, cell_of b 3, cell_of b 4, cell_of b 5, cell_of b 6⟩, evCells (HA.out.chg (PC.out.trans hc) (by simp)) EX.out⟩)
     rcases dn with _ | _
     ·
      have YL : Hid (ys.length ≤ k) := Lib.hid (by simpa using hyl)
      clear hyl
      by_cases hl : LtD y.n y.s x.n x.s
      ·
       have dl := decide_eq_true hl
       have SE : Hid (stepD f (fs, false) e = if aheadP e f = true then (fs ++ [f], true) else (fs ++ [f] ++ [e], true)) := Lib.hid (by unfold stepD; simp [LE.out.2 hl])
       replace SE := SE.out
       clear hl LE
       refine wp_region_held_drew (S := fun w' => Chg [] wr w') (by kernel_rfl) (Chg.refl [] wr).drew (fun hHeld => ?_)
       refine sy 0 38 rfl rfl ?_; try simp only [Act.put, sA, s0, s1]
       refine sy 1 39 rfl rfl ?_; try simp only [Act.put, sA, s0, s1]
       refine sy 2 40 rfl rfl ?_; try simp only [Act.put, sA, s0, s1]
       refine sy 3 41 rfl rfl ?_; try simp only [Act.put, sA, s0, s1]
       refine sy 4 42 rfl rfl ?_ (hy := by (intro w hSw; (try dsimp only at hSw); have hq := HB.out _ hSw; obtain ⟨⟨b0, b1, b2, b3, b4, b5, b6⟩, q0, q1, q2, q3, q4, q5, q6⟩ := hq; go_simp; try with_reducible rfl))
       try simp only [Act.put, sA, s0, s1]
       refine sy 5 43 rfl rfl ?_; try simp only [Act.put, sA, s0, s1]
       refine sy 6 44 rfl rfl ?_; try simp only [Act.put, sA, s0, s1]
       refine sy 7 45 rfl rfl ?_; try simp only [Act.put, sA, s0, s1]
       refine sy 8 46 rfl rfl ?_; try simp only [Act.put, sA, s0, s1]
       refine sy 9 47 rfl rfl ?_ (hy := by (intro w hSw; (try dsimp only at hSw); have hq := HB.out _ hSw; obtain ⟨⟨b0, b1, b2, b3, b4, b5, b6⟩, q0, q1, q2, q3, q4, q5, q6⟩ := hq; go_simp; try with_reducible rfl))
       try simp only [Act.put, sA, s0, s1]
       refine wpAnyH_ready (rs := [10]) (by kernel_rfl) (by simp) ?_; refine AllReadyH.cons rfl (fun K hK => ?_) AllReadyH.nil; replace hK := Lib.hid hK; go_simp
       refine (hless_any _ _ _ _ _).mono ?_
       rintro r w8 ⟨rfl, hc⟩
       rw [dl]
       have C8 := Lib.hid (hHeld.trans hc)
       clear hc hHeld
       refine hK.out _ _ C8.out (fun hHeld => ?_)
       clear hK K; try simp only [Act.put, sA, s0, s1]
       refine sy 11 49 rfl rfl ?_; try simp only [Act.put, sA, s0, s1]
       refine wpAnyH_done (by kernel_rfl) ?_ _
       replace RO := Lib.hid (RO.out.chg C8.out (by simp))
       replace PC := Lib.hid (PC.out.trans C8.out)
       clear hHeld HB
       have HB : Hid (∀ w', Chg [] w8 w' → (w'.cell? ⟨g1, 0, none⟩ = some (.int .i64 y.n) ∧ w'.cell? ⟨g1, 1, none⟩ = some (.int .i64 y.s) ∧ w'.cell? ⟨g1, 2, none⟩ = some (.string y.p) ∧ w'.cell? ⟨g1, 3, none⟩ = some (.int .i64 y.k) ∧ w'.cell? ⟨g1, 4, none⟩ = some (.int .i64 y.m) ∧ w'.cell? ⟨g1, 5, none⟩ = some (.slice y.A y.l y.c) ∧ w'.cell? ⟨g1, 6, none⟩ = some (.slice y.B y.bl y.bc)) ∧ (w'.cell? ⟨g3, o3 + k * 7, none⟩ = some (.int .i64 x.n) ∧ w'.cell? ⟨g3, o3 + k * 7 + 1, none⟩ = some (.int .i64 x.s) ∧ w'.cell? ⟨g3, o3 + k * 7 + 2, none⟩ = some (.string x.p) ∧ w'.cell? ⟨g3, o3 + k * 7 + 3, none⟩ = some (.int .i64 x.k) ∧ w'.cell? ⟨g3, o3 + k * 7 + 4, none⟩ = some (.int .i64 x.m) ∧ w'.cell? ⟨g3, o3 + k * 7 + 5, none⟩ = some (.slice x.A x.l x.c) ∧ w'.cell? ⟨g3, o3 + k * 7 + 6, none⟩ = some (.slice x.B x.bl x.bc))) := Lib.hid (fun w' hc => by
        have b := hc.at_ (PC.out.at_ B1.out (by simp)) (by simp)
        exact ⟨⟨cell_of b 0, cell_of b 1, cell_of b 2, cell_of b 3, cell_of b 4, cell_of b 5, cell_of b 6⟩, evCells (HA.out.chg (PC.out.trans hc) (by simp)) EX.out⟩)
       obtain ⟨w3, hw3, c3, b3⟩ := news1 w8 (.cells #[.int .i64 y.n, .int .i64 y.s, .string y.p, .int .i64 y.k, .int .i64 y.m, .slice y.A y.l y.c, .slice y.B y.bl y.bc] 30)
       have W3 := Lib.hid hw3
       have R3 := Lib.hid (rd_oneEc (X := y) b3)
       have RO3 := Lib.hid (RO.out.chg c3 (by simp))
       have PC3 := Lib.hid (PC.out.trans c3)
       have N4 : Hid ((ys.length + 1) * 400 ≤ 140737488355327) := Lib.hid (by have := YL.out; have := HN.out; simp at *; omega)
       clear hw3 c3 b3
       obtain ⟨⟨b0, b1, b2, b3, b4, b5, b6⟩, q0, q1, q2, q3, q4, q5, q6⟩ := HB.out w8 (Chg.refl [] _)
       go_upto_region 14 with (at_builtin; rw [← W3.out]; refine wpList_appK (R := evTy) rfl (.tmp 50) (.tmp 52) rfl rfl (A := A1) (n := ys.length) (m := 1) (c := d1) (d := 1) (xs := ys) (ys := [y]) RO3.out rfl rfl R3.out N4.out ?_; intro A7 c7 w7 o7 g7 e7; have O7 := Lib.hid o7; have F7 := Lib.hid (fresh_appE RN.out PC3.out g7 e7); clear o7 g7 e7)
       clear q0 q1 q2 q3 q4 q5 q6 b0 b1 b2 b3 b4 b5 b6 W3 R3 RO3 PC3 N4; clear HB
       replace RO := O7
       replace PC := Lib.hid F7.out.2
       replace RN := Lib.hid F7.out.1
       replace RE := Lib.hid (RE.out.snoc HY.out)
       replace YL : Hid ((ys ++ [y]).length ≤ k + 1) := Lib.hid (by have := YL.out; simp; omega)
       clear O7 F7
       have HB : Hid (∀ w', Chg [] w7 w' → (w'.cell? ⟨g1, 0, none⟩ = some (.int .i64 y.n) ∧ w'.cell? ⟨g1, 1, none⟩ = some (.int .i64 y.s) ∧ w'.cell? ⟨g1, 2, none⟩ = some (.string y.p) ∧ w'.cell? ⟨g1, 3, none⟩ = some (.int .i64 y.k) ∧ w'.cell? ⟨g1, 4, none⟩ = some (.int .i64 y.m) ∧ w'.cell? ⟨g1, 5, none⟩ = some (.slice y.A y.l y.c) ∧ w'.cell? ⟨g1, 6, none⟩ = some (.slice y.B y.bl y.bc)) ∧ (w'.cell? ⟨g3, o3 + k * 7, none⟩ = some (.int .i64 x.n) ∧ w'.cell? ⟨g3, o3 + k * 7 + 1, none⟩ = some (.int .i64 x.s) ∧ w'.cell? ⟨g3, o3 + k * 7 + 2, none⟩ = some (.string x.p) ∧ w'.cell? ⟨g3, o3 + k * 7 + 3, none⟩ = some (.int .i64 x.k) ∧ w'.cell? ⟨g3, o3 + k * 7 + 4, none⟩ = some (.int .i64 x.m) ∧ w'.cell? ⟨g3, o3 + k * 7 + 5, none⟩ = some (.slice x.A x.l x.c) ∧ w'.cell? ⟨g3, o3 + k * 7 + 6, none⟩ = some (.slice x.B x.bl x.bc))) := Lib.hid (fun w' hc => by
        have b := hc.at_ (PC.out.at_ B1.out (by simp)) (by simp)
        exact ⟨⟨cell_of b 0, cell_of b 1, cell_of b 2, cell_of b 3, cell_of b 4, cell_of b 5, cell_of b 6⟩, evCells (HA.out.chg (PC.out.trans hc) (by simp)) EX.out⟩)
       have AHD : Hid (∀ w', Chg [] w7 w' → Calls Tryz.prog 120 #[.agg #[.int .i64 x.n, .int .i64 x.s, .string x.p, .int .i64 x.k, .int .i64 x.m, .slice x.A x.l x.c, .slice x.B x.bl x.bc], .agg #[.int .i64 y.n, .int .i64 y.s, .string y.p, .int .i64 y.k, .int .i64 y.m, .slice y.A y.l y.c, .slice y.B y.bl y.bc]] w' fun r w2 => r = .returned (.bool (aheadP e f)) ∧ Chg [] w' w2) := Lib.hid (fun w' hc => veahead_any w' x y e f (RX1.out.chg (C1.out.trans (PC.out.trans hc))) (HY.out.chg (C1.out.trans (PC.out.trans hc))) ES1.out HT.out)
       refine wp_region_held_drew (S := fun w' => Chg [] w7 w') (by kernel_rfl) (Chg.refl [] w7).drew (fun hHeld => ?_)
       refine sy 0 54 rfl rfl ?_; try simp only [Act.put, sA, s0, s1]
       refine sy 1 55 rfl rfl ?_; try simp only [Act.put, sA, s0, s1]
       refine sy 2 56 rfl rfl ?_; try simp only [Act.put, sA, s0, s1]
       refine sy 3 57 rfl rfl ?_ (hy := by (intro w hSw; (try dsimp only at hSw); have hq := HB.out _ hSw; obtain ⟨⟨b0, b1, b2, b3, b4, b5, b6⟩, q0, q1, q2, q3, q4, q5, q6⟩ := hq; go_simp; try with_reducible rfl))
       try simp only [Act.put, sA, s0, s1]
       refine sy 4 58 rfl rfl ?_ (hy := by (intro w hSw; (try dsimp only at hSw); have hq := HB.out _ hSw; obtain ⟨⟨b0, b1, b2, b3, b4, b5, b6⟩, q0, q1, q2, q3, q4, q5, q6⟩ := hq; go_simp; try with_reducible rfl))
       try simp only [Act.put, sA, s0, s1]
       refine wpAnyH_ready (rs := [5]) (by kernel_rfl) (by simp) ?_; refine AllReadyH.cons rfl (fun K hK => ?_) AllReadyH.nil; replace hK := Lib.hid hK; go_simp
       refine (AHD.out _ hHeld).mono ?_
       rintro r w9 ⟨rfl, hc⟩
       have C9 := Lib.hid (hHeld.trans hc)
       clear hc hHeld
       refine hK.out _ _ C9.out (fun hHeld => ?_)
       clear hK K; try simp only [Act.put, sA, s0, s1]
       refine sy 6 60 rfl rfl ?_; try simp only [Act.put, sA, s0, s1]
       refine wpAnyH_done (by kernel_rfl) ?_ _
       replace RO := Lib.hid (RO.out.chg C9.out (by simp))
       replace PC := Lib.hid (PC.out.trans C9.out)
       clear hHeld HB AHD
       have HB : Hid (∀ w', Chg [] w9 w' → (w'.cell? ⟨g1, 0, none⟩ = some (.int .i64 y.n) ∧ w'.cell? ⟨g1, 1, none⟩ = some (.int .i64 y.s) ∧ w'.cell? ⟨g1, 2, none⟩ = some (.string y.p) ∧ w'.cell? ⟨g1, 3, none⟩ = some (.int .i64 y.k) ∧ w'.cell? ⟨g1, 4, none⟩ = some (.int .i64 y.m) ∧ w'.cell? ⟨g1, 5, none⟩ = some (.slice y.A y.l y.c) ∧ w'.cell? ⟨g1, 6, none⟩ = some (.slice y.B y.bl y.bc)) ∧ (w'.cell? ⟨g3, o3 + k * 7, none⟩ = some (.int .i64 x.n) ∧ w'.cell? ⟨g3, o3 + k * 7 + 1, none⟩ = some (.int .i64 x.s) ∧ w'.cell? ⟨g3, o3 + k * 7 + 2, none⟩ = some (.string x.p) ∧ w'.cell? ⟨g3, o3 + k * 7 + 3, none⟩ = some (.int .i64 x.k) ∧ w'.cell? ⟨g3, o3 + k * 7 + 4, none⟩ = some (.int .i64 x.m) ∧ w'.cell? ⟨g3, o3 + k * 7 + 5, none⟩ = some (.slice x.A x.l x.c) ∧ w'.cell? ⟨g3, o3 + k * 7 + 6, none⟩ = some (.slice x.B x.bl x.bc))) := Lib.hid (fun w' hc => by
        have b := hc.at_ (PC.out.at_ B1.out (by simp)) (by simp)
        exact ⟨⟨cell_of b 0, cell_of b 1, cell_of b 2, cell_of b 3, cell_of b 4, cell_of b 5, cell_of b 6⟩, evCells (HA.out.chg (PC.out.trans hc) (by simp)) EX.out⟩)
       rcases ha : aheadP e f with _ | _
       ·
        rw [ha] at SE
        clear ha
        obtain ⟨w3, hw3, c3, b3⟩ := news1 w9 (.cells #[.int .i64 x.n, .int .i64 x.s, .string x.p, .int .i64 x.k, .int .i64 x.m, .slice x.A x.l x.c, .slice x.B x.bl x.bc] 30)
        have W3 := Lib.hid hw3
        have R3 := Lib.hid (rd_oneEc (X := x) b3)
        have RO3 := Lib.hid (RO.out.chg c3 (by simp))
        have PC3 := Lib.hid (PC.out.trans c3)
        have N4 : Hid (((ys.length + 1) + 1) * 400 ≤ 140737488355327) := Lib.hid (by have := YL.out; have := HN.out; simp at *; omega)
        clear hw3 c3 b3
        obtain ⟨⟨b0, b1, b2, b3, b4, b5, b6⟩, q0, q1, q2, q3, q4, q5, q6⟩ := HB.out w9 (Chg.refl [] _)
        go_upto_region 10 with (at_builtin; rw [← W3.out]; refine wpList_appK (R := evTy) rfl (.tmp 61) (.tmp 66) rfl rfl (A := A7) (n := (ys.length + 1)) (m := 1) (c := c7) (d := 1) (xs := (ys ++ [y])) (ys := [x]) RO3.out (by simp) rfl R3.out N4.out ?_; intro A6 c6 w6 o7 g7 e7; have O6 := Lib.hid o7; have F6 := Lib.hid (fresh_appE RN.out PC3.out g7 e7); clear o7 g7 e7)
        clear q0 q1 q2 q3 q4 q5 q6 b0 b1 b2 b3 b4 b5 b6 W3 R3 RO3 PC3 N4; clear HB; go_wp2; go_round
        case rel => exact ⟨k + 1, A6, c6, (ys ++ [y]) ++ [x], (fs ++ [f]) ++ [e], true, by omega, by have := YL.out; simp at *; omega, by simp, rfl, by go_num, Lib.hid (by rw [FK.out, SE]; rfl), O6, Lib.hid (RE.out.snoc RX1.out), Lib.hid F6.out.1, F6.out.2⟩
        case measure => simp [RowKit.intOf]; omega
       ·
        rw [ha] at SE
        clear ha HB; go_wp2; go_round
        case rel => exact ⟨k + 1, A7, c7, (ys ++ [y]), (fs ++ [f]), true, by omega, by have := YL.out; simp at *; omega, by simp, rfl, by go_num, Lib.hid (by rw [FK.out, SE]; rfl), RO, RE, RN, PC⟩
        case measure => simp [RowKit.intOf]; omega
      ·
       have dl := decide_eq_false hl
       have SE : Hid (stepD f (fs, false) e = if aheadP e f = true then (fs, false) else (fs ++ [e], false)) := Lib.hid (by unfold stepD; simp [mt LE.out.1 hl])
       replace SE := SE.out
       clear hl LE
       refine wp_region_held_drew (S := fun w' => Chg [] wr w') (by kernel_rfl) (Chg.refl [] wr).drew (fun hHeld => ?_)
       refine sy 0 38 rfl rfl ?_; try simp only [Act.put, sA, s0, s1]
       refine sy 1 39 rfl rfl ?_; try simp only [Act.put, sA, s0, s1]
       refine sy 2 40 rfl rfl ?_; try simp only [Act.put, sA, s0, s1]
       refine sy 3 41 rfl rfl ?_; try simp only [Act.put, sA, s0, s1]
       refine sy 4 42 rfl rfl ?_ (hy := by (intro w hSw; (try dsimp only at hSw); have hq := HB.out _ hSw; obtain ⟨⟨b0, b1, b2, b3, b4, b5, b6⟩, q0, q1, q2, q3, q4, q5, q6⟩ := hq; go_simp; try with_reducible rfl))
       try simp only [Act.put, sA, s0, s1]
       refine sy 5 43 rfl rfl ?_; try simp only [Act.put, sA, s0, s1]
       refine sy 6 44 rfl rfl ?_; try simp only [Act.put, sA, s0, s1]
       refine sy 7 45 rfl rfl ?_; try simp only [Act.put, sA, s0, s1]
       refine sy 8 46 rfl rfl ?_; try simp only [Act.put, sA, s0, s1]
       refine sy 9 47 rfl rfl ?_ (hy := by (intro w hSw; (try dsimp only at hSw); have hq := HB.out _ hSw; obtain ⟨⟨b0, b1, b2, b3, b4, b5, b6⟩, q0, q1, q2, q3, q4, q5, q6⟩ := hq; go_simp; try with_reducible rfl))
       try simp only [Act.put, sA, s0, s1]
       refine wpAnyH_ready (rs := [10]) (by kernel_rfl) (by simp) ?_; refine AllReadyH.cons rfl (fun K hK => ?_) AllReadyH.nil; replace hK := Lib.hid hK; go_simp
       refine (hless_any _ _ _ _ _).mono ?_
       rintro r w8 ⟨rfl, hc⟩
       rw [dl]
       have C8 := Lib.hid (hHeld.trans hc)
       clear hc hHeld
       refine hK.out _ _ C8.out (fun hHeld => ?_)
       clear hK K; try simp only [Act.put, sA, s0, s1]
       refine sy 11 49 rfl rfl ?_; try simp only [Act.put, sA, s0, s1]
       refine wpAnyH_done (by kernel_rfl) ?_ _
       replace RO := Lib.hid (RO.out.chg C8.out (by simp))
       replace PC := Lib.hid (PC.out.trans C8.out)
       clear hHeld HB
       have HB : Hid (∀ w', Chg [] w8 w' → (w'.cell? ⟨g1, 0, none⟩ = some (.int .i64 y.n) ∧ w'.cell? ⟨g1, 1, none⟩ = some (.int .i64 y.s) ∧ w'.cell? ⟨g1, 2, none⟩ = some (.string y.p) ∧ w'.cell? ⟨g1, 3, none⟩ = some (.int .i64 y.k) ∧ w'.cell? ⟨g1, 4, none⟩ = some (.int .i64 y.m) ∧ w'.cell? ⟨g1, 5, none⟩ = some (.slice y.A y.l y.c) ∧ w'.cell? ⟨g1, 6, none⟩ = some (.slice y.B y.bl y.bc)) ∧ (w'.cell? ⟨g3, o3 + k * 7, none⟩ = some (.int .i64 x.n) ∧ w'.cell? ⟨g3, o3 + k * 7 + 1, none⟩ = some (.int .i64 x.s) ∧ w'.cell? ⟨g3, o3 + k * 7 + 2, none⟩ = some (.string x.p) ∧ w'.cell? ⟨g3, o3 + k * 7 + 3, none⟩ = some (.int .i64 x.k) ∧ w'.cell? ⟨g3, o3 + k * 7 + 4, none⟩ = some (.int .i64 x.m) ∧ w'.cell? ⟨g3, o3 + k * 7 + 5, none⟩ = some (.slice x.A x.l x.c) ∧ w'.cell? ⟨g3, o3 + k * 7 + 6, none⟩ = some (.slice x.B x.bl x.bc))) := Lib.hid (fun w' hc => by
        have b := hc.at_ (PC.out.at_ B1.out (by simp)) (by simp)
        exact ⟨⟨cell_of b 0, cell_of b 1, cell_of b 2, cell_of b 3, cell_of b 4, cell_of b 5, cell_of b 6⟩, evCells (HA.out.chg (PC.out.trans hc) (by simp)) EX.out⟩)
       go_upto_region 14 with fail
       have AHD : Hid (∀ w', Chg [] w8 w' → Calls Tryz.prog 120 #[.agg #[.int .i64 x.n, .int .i64 x.s, .string x.p, .int .i64 x.k, .int .i64 x.m, .slice x.A x.l x.c, .slice x.B x.bl x.bc], .agg #[.int .i64 y.n, .int .i64 y.s, .string y.p, .int .i64 y.k, .int .i64 y.m, .slice y.A y.l y.c, .slice y.B y.bl y.bc]] w' fun r w2 => r = .returned (.bool (aheadP e f)) ∧ Chg [] w' w2) := Lib.hid (fun w' hc => veahead_any w' x y e f (RX1.out.chg (C1.out.trans (PC.out.trans hc))) (HY.out.chg (C1.out.trans (PC.out.trans hc))) ES1.out HT.out)
       refine wp_region_held_drew (S := fun w' => Chg [] w8 w') (by kernel_rfl) (Chg.refl [] w8).drew (fun hHeld => ?_)
       refine sy 0 54 rfl rfl ?_; try simp only [Act.put, sA, s0, s1]
       refine sy 1 55 rfl rfl ?_; try simp only [Act.put, sA, s0, s1]
       refine sy 2 56 rfl rfl ?_; try simp only [Act.put, sA, s0, s1]
       refine sy 3 57 rfl rfl ?_ (hy := by (intro w hSw; (try dsimp only at hSw); have hq := HB.out _ hSw; obtain ⟨⟨b0, b1, b2, b3, b4, b5, b6⟩, q0, q1, q2, q3, q4, q5, q6⟩ := hq; go_simp; try with_reducible rfl))
       try simp only [Act.put, sA, s0, s1]
       refine sy 4 58 rfl rfl ?_ (hy := by (intro w hSw; (try dsimp only at hSw); have hq := HB.out _ hSw; obtain ⟨⟨b0, b1, b2, b3, b4, b5, b6⟩, q0, q1, q2, q3, q4, q5, q6⟩ := hq; go_simp; try with_reducible rfl))
       try simp only [Act.put, sA, s0, s1]
       refine wpAnyH_ready (rs := [5]) (by kernel_rfl) (by simp) ?_; refine AllReadyH.cons rfl (fun K hK => ?_) AllReadyH.nil; replace hK := Lib.hid hK; go_simp
       refine (AHD.out _ hHeld).mono ?_
       rintro r w9 ⟨rfl, hc⟩
       have C9 := Lib.hid (hHeld.trans hc)
       clear hc hHeld
       refine hK.out _ _ C9.out (fun hHeld => ?_)
       clear hK K; try simp only [Act.put, sA, s0, s1]
       refine sy 6 60 rfl rfl ?_; try simp only [Act.put, sA, s0, s1]
       refine wpAnyH_done (by kernel_rfl) ?_ _
       replace RO := Lib.hid (RO.out.chg C9.out (by simp))
       replace PC := Lib.hid (PC.out.trans C9.out)
       clear hHeld HB AHD
       have HB : Hid (∀ w', Chg [] w9 w' → (w'.cell? ⟨g1, 0, none⟩ = some (.int .i64 y.n) ∧ w'.cell? ⟨g1, 1, none⟩ = some (.int .i64 y.s) ∧ w'.cell? ⟨g1, 2, none⟩ = some (.string y.p) ∧ w'.cell? ⟨g1, 3, none⟩ = some (.int .i64 y.k) ∧ w'.cell? ⟨g1, 4, none⟩ = some (.int .i64 y.m) ∧ w'.cell? ⟨g1, 5, none⟩ = some (.slice y.A y.l y.c) ∧ w'.cell? ⟨g1, 6, none⟩ = some (.slice y.B y.bl y.bc)) ∧ (w'.cell? ⟨g3, o3 + k * 7, none⟩ = some (.int .i64 x.n) ∧ w'.cell? ⟨g3, o3 + k * 7 + 1, none⟩ = some (.int .i64 x.s) ∧ w'.cell? ⟨g3, o3 + k * 7 + 2, none⟩ = some (.string x.p) ∧ w'.cell? ⟨g3, o3 + k * 7 + 3, none⟩ = some (.int .i64 x.k) ∧ w'.cell? ⟨g3, o3 + k * 7 + 4, none⟩ = some (.int .i64 x.m) ∧ w'.cell? ⟨g3, o3 + k * 7 + 5, none⟩ = some (.slice x.A x.l x.c) ∧ w'.cell? ⟨g3, o3 + k * 7 + 6, none⟩ = some (.slice x.B x.bl x.bc))) := Lib.hid (fun w' hc => by
        have b := hc.at_ (PC.out.at_ B1.out (by simp)) (by simp)
        exact ⟨⟨cell_of b 0, cell_of b 1, cell_of b 2, cell_of b 3, cell_of b 4, cell_of b 5, cell_of b 6⟩, evCells (HA.out.chg (PC.out.trans hc) (by simp)) EX.out⟩)
       rcases ha : aheadP e f with _ | _
       ·
        rw [ha] at SE
        clear ha
        obtain ⟨w3, hw3, c3, b3⟩ := news1 w9 (.cells #[.int .i64 x.n, .int .i64 x.s, .string x.p, .int .i64 x.k, .int .i64 x.m, .slice x.A x.l x.c, .slice x.B x.bl x.bc] 30)
        have W3 := Lib.hid hw3
        have R3 := Lib.hid (rd_oneEc (X := x) b3)
        have RO3 := Lib.hid (RO.out.chg c3 (by simp))
        have PC3 := Lib.hid (PC.out.trans c3)
        have N4 : Hid ((ys.length + 1) * 400 ≤ 140737488355327) := Lib.hid (by have := YL.out; have := HN.out; simp at *; omega)
        clear hw3 c3 b3
        obtain ⟨⟨b0, b1, b2, b3, b4, b5, b6⟩, q0, q1, q2, q3, q4, q5, q6⟩ := HB.out w9 (Chg.refl [] _)
        go_upto_region 10 with (at_builtin; rw [← W3.out]; refine wpList_appK (R := evTy) rfl (.tmp 61) (.tmp 66) rfl rfl (A := A1) (n := ys.length) (m := 1) (c := d1) (d := 1) (xs := ys) (ys := [x]) RO3.out rfl rfl R3.out N4.out ?_; intro A6 c6 w6 o7 g7 e7; have O6 := Lib.hid o7; have F6 := Lib.hid (fresh_appE RN.out PC3.out g7 e7); clear o7 g7 e7)
        clear q0 q1 q2 q3 q4 q5 q6 b0 b1 b2 b3 b4 b5 b6 W3 R3 RO3 PC3 N4; clear HB; go_wp2; go_round
        case rel => exact ⟨k + 1, A6, c6, ys ++ [x], fs ++ [e], false, by omega, by have := YL.out; simp at *; omega, by simp, rfl, by go_num, Lib.hid (by rw [FK.out, SE]; rfl), O6, Lib.hid (RE.out.snoc RX1.out), Lib.hid F6.out.1, F6.out.2⟩
        case measure => simp [RowKit.intOf]; omega
       ·
        rw [ha] at SE
        clear ha HB; go_wp2; go_round
        case rel => exact ⟨k + 1, A1, d1, ys, fs, false, by omega, by have := YL.out; simp at *; omega, by simp, rfl, by go_num, Lib.hid (by rw [FK.out, SE]; rfl), RO, RE, RN, PC⟩
        case measure => simp [RowKit.intOf]; omega
     ·
      have YL : Hid (ys.length ≤ k + 1) := Lib.hid (by simpa using hyl)
      clear hyl
      have SE : Hid (stepD f (fs, true) e = if aheadP e f = true then (fs, true) else (fs ++ [e], true)) := Lib.hid (by unfold stepD; simp)
      replace SE := SE.out
      clear LE
      refine wp_region_held_drew (S := fun w' => Chg [] wr w') (by kernel_rfl) (Chg.refl [] wr).drew (fun hHeld => ?_)
      refine sy 0 38 rfl rfl ?_; try simp only [Act.put, sA, s0, s1]
      refine sy 1 39 rfl rfl ?_; try simp only [Act.put, sA, s0, s1]
      refine sy 2 40 rfl rfl ?_; try simp only [Act.put, sA, s0, s1]
      refine sn 3 41 rfl rfl ?_; try simp only [Act.put, sA, s0, s1]
      refine sn 4 42 rfl rfl ?_; try simp only [Act.put, sA, s0, s1]
      refine sn 5 43 rfl rfl ?_; try simp only [Act.put, sA, s0, s1]
      refine sn 6 44 rfl rfl ?_; try simp only [Act.put, sA, s0, s1]
      refine sn 7 45 rfl rfl ?_; try simp only [Act.put, sA, s0, s1]
      refine sn 8 46 rfl rfl ?_; try simp only [Act.put, sA, s0, s1]
      refine sn 9 47 rfl rfl ?_; try simp only [Act.put, sA, s0, s1]
      refine sn 10 48 rfl rfl ?_; try simp only [Act.put, sA, s0, s1]
      refine sy 11 49 rfl rfl ?_; try simp only [Act.put, sA, s0, s1]
      refine wpAnyH_done (by kernel_rfl) ?_ _
      have C8 := Lib.hid hHeld
      clear hHeld; clear HB
      obtain ⟨w8, hw8⟩ : ∃ w8, wr.drew = w8 := ⟨_, rfl⟩
      rw [hw8] at C8 ⊢
      replace RO := Lib.hid (RO.out.chg C8.out (by simp))
      replace PC := Lib.hid (PC.out.trans C8.out)
      have HB : Hid (∀ w', Chg [] w8 w' → (w'.cell? ⟨g1, 0, none⟩ = some (.int .i64 y.n) ∧ w'.cell? ⟨g1, 1, none⟩ = some (.int .i64 y.s) ∧ w'.cell? ⟨g1, 2, none⟩ = some (.string y.p) ∧ w'.cell? ⟨g1, 3, none⟩ = some (.int .i64 y.k) ∧ w'.cell? ⟨g1, 4, none⟩ = some (.int .i64 y.m) ∧ w'.cell? ⟨g1, 5, none⟩ = some (.slice y.A y.l y.c) ∧ w'.cell? ⟨g1, 6, none⟩ = some (.slice y.B y.bl y.bc)) ∧ (w'.cell? ⟨g3, o3 + k * 7, none⟩ = some (.int .i64 x.n) ∧ w'.cell? ⟨g3, o3 + k * 7 + 1, none⟩ = some (.int .i64 x.s) ∧ w'.cell? ⟨g3, o3 + k * 7 + 2, none⟩ = some (.string x.p) ∧ w'.cell? ⟨g3, o3 + k * 7 + 3, none⟩ = some (.int .i64 x.k) ∧ w'.cell? ⟨g3, o3 + k * 7 + 4, none⟩ = some (.int .i64 x.m) ∧ w'.cell? ⟨g3, o3 + k * 7 + 5, none⟩ = some (.slice x.A x.l x.c) ∧ w'.cell? ⟨g3, o3 + k * 7 + 6, none⟩ = some (.slice x.B x.bl x.bc))) := Lib.hid (fun w' hc => by
       have b := hc.at_ (PC.out.at_ B1.out (by simp)) (by simp)
       exact ⟨⟨cell_of b 0, cell_of b 1, cell_of b 2, cell_of b 3, cell_of b 4, cell_of b 5, cell_of b 6⟩, evCells (HA.out.chg (PC.out.trans hc) (by simp)) EX.out⟩)
      go_upto_region 14 with fail
      have AHD : Hid (∀ w', Chg [] w8 w' → Calls Tryz.prog 120 #[.agg #[.int .i64 x.n, .int .i64 x.s, .string x.p, .int .i64 x.k, .int .i64 x.m, .slice x.A x.l x.c, .slice x.B x.bl x.bc], .agg #[.int .i64 y.n, .int .i64 y.s, .string y.p, .int .i64 y.k, .int .i64 y.m, .slice y.A y.l y.c, .slice y.B y.bl y.bc]] w' fun r w2 => r = .returned (.bool (aheadP e f)) ∧ Chg [] w' w2) := Lib.hid (fun w' hc => veahead_any w' x y e f (RX1.out.chg (C1.out.trans (PC.out.trans hc))) (HY.out.chg (C1.out.trans (PC.out.trans hc))) ES1.out HT.out)
      refine wp_region_held_drew (S := fun w' => Chg [] w8 w') (by kernel_rfl) (Chg.refl [] w8).drew (fun hHeld => ?_)
      refine sy 0 54 rfl rfl ?_; try simp only [Act.put, sA, s0, s1]
      refine sy 1 55 rfl rfl ?_; try simp only [Act.put, sA, s0, s1]
      refine sy 2 56 rfl rfl ?_; try simp only [Act.put, sA, s0, s1]
      refine sy 3 57 rfl rfl ?_ (hy := by (intro w hSw; (try dsimp only at hSw); have hq := HB.out _ hSw; obtain ⟨⟨b0, b1, b2, b3, b4, b5, b6⟩, q0, q1, q2, q3, q4, q5, q6⟩ := hq; go_simp; try with_reducible rfl))
      try simp only [Act.put, sA, s0, s1]
      refine sy 4 58 rfl rfl ?_ (hy := by (intro w hSw; (try dsimp only at hSw); have hq := HB.out _ hSw; obtain ⟨⟨b0, b1, b2, b3, b4, b5, b6⟩, q0, q1, q2, q3, q4, q5, q6⟩ := hq; go_simp; try with_reducible rfl))
      try simp only [Act.put, sA, s0, s1]
      refine wpAnyH_ready (rs := [5]) (by kernel_rfl) (by simp) ?_; refine AllReadyH.cons rfl (fun K hK => ?_) AllReadyH.nil; replace hK := Lib.hid hK; go_simp
      refine (AHD.out _ hHeld).mono ?_
      rintro r w9 ⟨rfl, hc⟩
      have C9 := Lib.hid (hHeld.trans hc)
      clear hc hHeld
      refine hK.out _ _ C9.out (fun hHeld => ?_)
      clear hK K; try simp only [Act.put, sA, s0, s1]
      refine sy 6 60 rfl rfl ?_; try simp only [Act.put, sA, s0, s1]
      refine wpAnyH_done (by kernel_rfl) ?_ _
      replace RO := Lib.hid (RO.out.chg C9.out (by simp))
      replace PC := Lib.hid (PC.out.trans C9.out)
      clear hHeld HB AHD
      have HB : Hid (∀ w', Chg [] w9 w' → (w'.cell? ⟨g1, 0, none⟩ = some (.int .i64 y.n) ∧ w'.cell? ⟨g1, 1, none⟩ = some (.int .i64 y.s) ∧ w'.cell? ⟨g1, 2, none⟩ = some (.string y.p) ∧ w'.cell? ⟨g1, 3, none⟩ = some (.int .i64 y.k) ∧ w'.cell? ⟨g1, 4, none⟩ = some (.int .i64 y.m) ∧ w'.cell? ⟨g1, 5, none⟩ = some (.slice y.A y.l y.c) ∧ w'.cell? ⟨g1, 6, none⟩ = some (.slice y.B y.bl y.bc)) ∧ (w'.cell? ⟨g3, o3 + k * 7, none⟩ = some (.int .i64 x.n) ∧ w'.cell? ⟨g3, o3 + k * 7 + 1, none⟩ = some (.int .i64 x.s) ∧ w'.cell? ⟨g3, o3 + k * 7 + 2, none⟩ = some (.string x.p) ∧ w'.cell? ⟨g3, o3 + k * 7 + 3, none⟩ = some (.int .i64 x.k) ∧ w'.cell? ⟨g3, o3 + k * 7 + 4, none⟩ = some (.int .i64 x.m) ∧ w'.cell? ⟨g3, o3 + k * 7 + 5, none⟩ = some (.slice x.A x.l x.c) ∧ w'.cell? ⟨g3, o3 + k * 7 + 6, none⟩ = some (.slice x.B x.bl x.bc))) := Lib.hid (fun w' hc => by
       have b := hc.at_ (PC.out.at_ B1.out (by simp)) (by simp)
       exact ⟨⟨cell_of b 0, cell_of b 1, cell_of b 2, cell_of b 3, cell_of b 4, cell_of b 5, cell_of b 6⟩, evCells (HA.out.chg (PC.out.trans hc) (by simp)) EX.out⟩)
      rcases ha : aheadP e f with _ | _
      ·
       rw [ha] at SE
       clear ha
       obtain ⟨w3, hw3, c3, b3⟩ := news1 w9 (.cells #[.int .i64 x.n, .int .i64 x.s, .string x.p, .int .i64 x.k, .int .i64 x.m, .slice x.A x.l x.c, .slice x.B x.bl x.bc] 30)
       have W3 := Lib.hid hw3
       have R3 := Lib.hid (rd_oneEc (X := x) b3)
       have RO3 := Lib.hid (RO.out.chg c3 (by simp))
       have PC3 := Lib.hid (PC.out.trans c3)
       have N4 : Hid ((ys.length + 1) * 400 ≤ 140737488355327) := Lib.hid (by have := YL.out; have := HN.out; simp at *; omega)
       clear hw3 c3 b3
       obtain ⟨⟨b0, b1, b2, b3, b4, b5, b6⟩, q0, q1, q2, q3, q4, q5, q6⟩ := HB.out w9 (Chg.refl [] _)
       go_upto_region 10 with (at_builtin; rw [← W3.out]; refine wpList_appK (R := evTy) rfl (.tmp 61) (.tmp 66) rfl rfl (A := A1) (n := ys.length) (m := 1) (c := d1) (d := 1) (xs := ys) (ys := [x]) RO3.out rfl rfl R3.out N4.out ?_; intro A6 c6 w6 o7 g7 e7; have O6 := Lib.hid o7; have F6 := Lib.hid (fresh_appE RN.out PC3.out g7 e7); clear o7 g7 e7)
       clear q0 q1 q2 q3 q4 q5 q6 b0 b1 b2 b3 b4 b5 b6 W3 R3 RO3 PC3 N4; clear HB; go_wp2; go_round
       case rel => exact ⟨k + 1, A6, c6, ys ++ [x], fs ++ [e], true, by omega, by have := YL.out; simp at *; omega, by simp, rfl, by go_num, Lib.hid (by rw [FK.out, SE]; rfl), O6, Lib.hid (RE.out.snoc RX1.out), Lib.hid F6.out.1, F6.out.2⟩
       case measure => simp [RowKit.intOf]; omega
      ·
       rw [ha] at SE
       clear ha HB; go_wp2; go_round
       case rel => exact ⟨k + 1, A1, d1, ys, fs, true, by omega, by have := YL.out; simp at *; omega, by simp, rfl, by go_num, Lib.hid (by rw [FK.out, SE]; rfl), RO, RE, RN, PC⟩
       case measure => simp [RowKit.intOf]; omega
    ·
     obtain rfl : k = xs.length := by omega
     have j1 : ¬ (xs.length : Int) < (xs.length : Int) := by omega
     have ET : es.take xs.length = es := by rw [HX.out.1]; exact List.take_length
     rw [ET] at FD
     clear ET
     have PD : Hid (endD f (fs, dn) = putE es f) := Lib.hid (by rw [← FD.out]; exact putD_is HU.out NST.out)
     clear FD
     rcases dn with _ | _
     ·
      obtain ⟨w3, hw3, c3, b3⟩ := news1 wr (.cells #[.int .i64 y.n, .int .i64 y.s, .string y.p, .int .i64 y.k, .int .i64 y.m, .slice y.A y.l y.c, .slice y.B y.bl y.bc] 30)
      have W3 := Lib.hid hw3
      have R3 := Lib.hid (rd_oneEc (X := y) b3)
      have RO3 := Lib.hid (RO.out.chg c3 (by simp))
      have PC3 := Lib.hid (PC.out.trans c3)
      have YL : Hid (ys.length ≤ xs.length) := Lib.hid (by simpa using hyl)
      have N4 : Hid ((ys.length + 1) * 400 ≤ 140737488355327) := Lib.hid (by have := YL.out; have := HN.out; omega)
      have b := PC.out.at_ B1.out (by simp)
      have b0 := cell_of b 0
      have b1 := cell_of b 1
      have b2 := cell_of b 2
      have b3' := cell_of b 3
      have b4 := cell_of b 4
      have b5 := cell_of b 5
      have b6 := cell_of b 6
      simp only [List.getElem?_toArray, List.getElem?_cons_succ, List.getElem?_cons_zero] at b0 b1 b2 b3' b4 b5 b6
      clear hw3 c3 b3 b hyl
      go_upto_region 18 with (at_builtin; rw [← W3.out]; refine wpList_appK (R := evTy) rfl (.tmp 70) (.tmp 72) rfl rfl (A := A1) (n := ys.length) (m := 1) (c := d1) (d := 1) (xs := ys) (ys := [y]) RO3.out rfl rfl R3.out N4.out ?_; intro A6 c6 w6 o7 g7 e7; have O6 := Lib.hid o7; have F6 := Lib.hid (fresh_appE RN.out PC3.out g7 e7); clear o7 g7 e7)
      clear b0 b1 b2 b3' b4 b5 b6 W3 R3 RO3 PC3 N4; go_wp2; go_ret
      exact ⟨A6, c6, ys ++ [y], by simp, by have := YL.out; simp; omega, by rw [← PD.out]; exact RE.out.snoc HY.out, O6.out.reads, C1.out.trans F6.out.2⟩
     ·
      have YL : Hid (ys.length ≤ xs.length + 1) := Lib.hid (by simpa using hyl)
      clear hyl; go_wp2; go_ret
      exact ⟨A1, d1, ys, rfl, YL.out, by rw [← PD.out]; exact RE.out, RO.out.reads, C1.out.trans PC.out⟩
end
section
open Go.RowKit Go.Lib


set_option maxRecDepth 100000 in
set_option maxHeartbeats 16000000 in
theorem ksjoin_any (w : World) (A B : Option Addr) (c d : Nat) (xs ys : List EvT) (es fs : List EvP) (h : RdK evTy w A xs.length xs) (h' : RdK evTy w B ys.length ys) (hx : EvsR w xs es) (hy : EvsR w ys fs) (hn : xs.length + ys.length ≤ 1000) (hs : ∀ e ∈ es, EvSm e ∧ e.q.length ≤ 100000) (ht : ∀ e ∈ fs, EvSm e ∧ e.q.length ≤ 100000) :
  Calls Tryz.prog 113 #[.slice A xs.length c, .slice B ys.length d] w fun r w' => ∃ (A' : Option Addr) (c' : Nat) (zs : List EvT), r = .returned (.tuple #[.slice A' zs.length c', .int .i64 (shJoinE es fs).1]) ∧ RdK evTy w' A' zs.length zs ∧ EvsR w' zs (shJoinE es fs).2 ∧ Chg [] w w' := by

 have HA := Lib.hid h
 have HB := Lib.hid h'
 have HX := Lib.hid hx
 have HY := Lib.hid hy
 have HN := Lib.hid hn
 have HS : Hid (∀ e ∈ es, EvSm e) := Lib.hid (fun e he => (hs e he).1)
 have HT : Hid (∀ e ∈ fs, EvSm e) := Lib.hid (fun e he => (ht e he).1)
 have HQ := Lib.hid hs
 have HR := Lib.hid ht
 clear h h' hx hy hn hs ht
 go_enter Tryz.func113, Tryz.ntmps113
 go_upto_region 1 with fail
 have SCA : Hid (∀ w', Chg [] w w' → Calls Tryz.prog 56 #[.slice A xs.length c] w' fun r w2 => r = .returned (.int .i64 (shE es)) ∧ Chg [] w' w2) := Lib.hid (fun w' hc => kscheck_any w' A c xs es (HA.out.chg hc (by simp)) (HX.out.chg hc) (by have := HN.out; omega) HS.out)
 have SCB : Hid (∀ w', Chg [] w w' → Calls Tryz.prog 56 #[.slice B ys.length d] w' fun r w2 => r = .returned (.int .i64 (shE fs)) ∧ Chg [] w' w2) := Lib.hid (fun w' hc => kscheck_any w' B d ys fs (HB.out.chg hc (by simp)) (HY.out.chg hc) (by have := HN.out; omega) HT.out)
 rcases shE_two es with e1 | e1
 rotate_left
 ·
  have NO : Hid (shJoinE es fs = (2, [])) := Lib.hid (shJoin_noA (fun q => by rw [shE_zero.2 q] at e1; cases e1))
  refine wp_region_held_drew (S := fun w' => Chg [] w w') (by kernel_rfl) (Chg.refl [] w).drew (fun hHeld => ?_)
  refine sy 0 11 rfl rfl ?_; try simp only [Act.put, sA, s0, s1]
  refine wpAnyH_ready (rs := [1]) (by kernel_rfl) (by simp) ?_; refine AllReadyH.cons rfl (fun K hK => ?_) AllReadyH.nil; replace hK := Lib.hid hK; go_simp
  refine (SCA.out _ hHeld).mono ?_
  rintro r w3 ⟨rfl, hc⟩
  rw [e1]
  have C9 := Lib.hid (hHeld.trans hc)
  clear hc hHeld
  refine hK.out _ _ C9.out (fun hHeld => ?_)
  clear hK K; try simp only [Act.put, sA, s0, s1]
  refine sy 2 13 rfl rfl ?_; try simp only [Act.put, sA, s0, s1]
  refine sy 3 14 rfl rfl ?_; try simp only [Act.put, sA, s0, s1]
  refine sn 4 15 rfl rfl ?_; try simp only [Act.put, sA, s0, s1]
  refine sn 5 16 rfl rfl ?_; try simp only [Act.put, sA, s0, s1]
  refine sn 6 17 rfl rfl ?_; try simp only [Act.put, sA, s0, s1]
  refine sy 7 18 rfl rfl ?_; try simp only [Act.put, sA, s0, s1]
  refine sy 8 19 rfl rfl ?_; try simp only [Act.put, sA, s0, s1]
  refine sn 9 20 rfl rfl ?_; try simp only [Act.put, sA, s0, s1]
  refine sn 10 21 rfl rfl ?_; try simp only [Act.put, sA, s0, s1]
  refine sn 11 22 rfl rfl ?_; try simp only [Act.put, sA, s0, s1]
  refine sn 12 23 rfl rfl ?_; try simp only [Act.put, sA, s0, s1]
  refine sn 13 24 rfl rfl ?_; try simp only [Act.put, sA, s0, s1]
  refine sn 14 25 rfl rfl ?_; try simp only [Act.put, sA, s0, s1]
  refine sn 15 26 rfl rfl ?_; try simp only [Act.put, sA, s0, s1]
  refine sn 16 27 rfl rfl ?_; try simp only [Act.put, sA, s0, s1]
  refine sn 17 28 rfl rfl ?_; try simp only [Act.put, sA, s0, s1]
  refine sn 18 29 rfl rfl ?_; try simp only [Act.put, sA, s0, s1]
  refine sn 19 30 rfl rfl ?_; try simp only [Act.put, sA, s0, s1]
  refine sn 20 31 rfl rfl ?_; try simp only [Act.put, sA, s0, s1]
  refine sn 21 32 rfl rfl ?_; try simp only [Act.put, sA, s0, s1]
  refine sn 22 33 rfl rfl ?_; try simp only [Act.put, sA, s0, s1]
  refine sn 23 34 rfl rfl ?_; try simp only [Act.put, sA, s0, s1]
  refine sn 24 35 rfl rfl ?_; try simp only [Act.put, sA, s0, s1]
  refine sn 25 36 rfl rfl ?_; try simp only [Act.put, sA, s0, s1]
  refine sn 26 37 rfl rfl ?_; try simp only [Act.put, sA, s0, s1]
  refine sn 27 38 rfl rfl ?_; try simp only [Act.put, sA, s0, s1]
  refine sy 28 39 rfl rfl ?_; try simp only [Act.put, sA, s0, s1]
  refine wpAnyH_done (by kernel_rfl) ?_ _; clear hHeld SCA SCB; go_wp2; go_ret2
  rw [NO.out]
  exact ⟨none, 0, [], rfl, RdK.nil _ _, EvsR.nil _, C9.out⟩
 have SA : Hid (ShOk es) := Lib.hid (shE_zero.1 e1)
 rcases shE_two fs with e2 | e2
 rotate_left
 ·
  have NO : Hid (shJoinE es fs = (2, [])) := Lib.hid (shJoin_noB (fun q => by rw [shE_zero.2 q] at e2; cases e2))
  refine wp_region_held_drew (S := fun w' => Chg [] w w') (by kernel_rfl) (Chg.refl [] w).drew (fun hHeld => ?_)
  refine sy 0 11 rfl rfl ?_; try simp only [Act.put, sA, s0, s1]
  refine wpAnyH_ready (rs := [1]) (by kernel_rfl) (by simp) ?_; refine AllReadyH.cons rfl (fun K hK => ?_) AllReadyH.nil; replace hK := Lib.hid hK; go_simp
  refine (SCA.out _ hHeld).mono ?_
  rintro r w3 ⟨rfl, hc⟩
  rw [e1]
  have C9 := Lib.hid (hHeld.trans hc)
  clear hc hHeld
  refine hK.out _ _ C9.out (fun hHeld => ?_)
  clear hK K; try simp only [Act.put, sA, s0, s1]
  refine sy 2 13 rfl rfl ?_; try simp only [Act.put, sA, s0, s1]
  refine sy 3 14 rfl rfl ?_; try simp only [Act.put, sA, s0, s1]
  refine sy 4 15 rfl rfl ?_; try simp only [Act.put, sA, s0, s1]
  refine wpAnyH_ready (rs := [5]) (by kernel_rfl) (by simp) ?_; refine AllReadyH.cons rfl (fun K hK => ?_) AllReadyH.nil; replace hK := Lib.hid hK; go_simp
  refine (SCB.out _ hHeld).mono ?_
  rintro r w4 ⟨rfl, hc⟩
  rw [e2]
  have C9 := Lib.hid (hHeld.trans hc)
  clear hc hHeld
  refine hK.out _ _ C9.out (fun hHeld => ?_)
  clear hK K; try simp only [Act.put, sA, s0, s1]
  refine sy 6 17 rfl rfl ?_; try simp only [Act.put, sA, s0, s1]
  refine sy 7 18 rfl rfl ?_; try simp only [Act.put, sA, s0, s1]
  refine sy 8 19 rfl rfl ?_; try simp only [Act.put, sA, s0, s1]
  refine sn 9 20 rfl rfl ?_; try simp only [Act.put, sA, s0, s1]
  refine sn 10 21 rfl rfl ?_; try simp only [Act.put, sA, s0, s1]
  refine sn 11 22 rfl rfl ?_; try simp only [Act.put, sA, s0, s1]
  refine sn 12 23 rfl rfl ?_; try simp only [Act.put, sA, s0, s1]
  refine sn 13 24 rfl rfl ?_; try simp only [Act.put, sA, s0, s1]
  refine sn 14 25 rfl rfl ?_; try simp only [Act.put, sA, s0, s1]
  refine sn 15 26 rfl rfl ?_; try simp only [Act.put, sA, s0, s1]
  refine sn 16 27 rfl rfl ?_; try simp only [Act.put, sA, s0, s1]
  refine sn 17 28 rfl rfl ?_; try simp only [Act.put, sA, s0, s1]
  refine sn 18 29 rfl rfl ?_; try simp only [Act.put, sA, s0, s1]
  refine sn 19 30 rfl rfl ?_; try simp only [Act.put, sA, s0, s1]
  refine sn 20 31 rfl rfl ?_; try simp only [Act.put, sA, s0, s1]
  refine sn 21 32 rfl rfl ?_; try simp only [Act.put, sA, s0, s1]
  refine sn 22 33 rfl rfl ?_; try simp only [Act.put, sA, s0, s1]
  refine sn 23 34 rfl rfl ?_; try simp only [Act.put, sA, s0, s1]
  refine sn 24 35 rfl rfl ?_; try simp only [Act.put, sA, s0, s1]
  refine sn 25 36 rfl rfl ?_; try simp only [Act.put, sA, s0, s1]
  refine sn 26 37 rfl rfl ?_; try simp only [Act.put, sA, s0, s1]
  refine sn 27 38 rfl rfl ?_; try simp only [Act.put, sA, s0, s1]
  refine sy 28 39 rfl rfl ?_; try simp only [Act.put, sA, s0, s1]
  refine wpAnyH_done (by kernel_rfl) ?_ _; clear hHeld SCA SCB; go_wp2; go_ret2
  rw [NO.out]
  exact ⟨none, 0, [], rfl, RdK.nil _ _, EvsR.nil _, C9.out⟩
 have SB : Hid (ShOk fs) := Lib.hid (shE_zero.1 e2)
 have XL : Hid (xs.length = es.length) := Lib.hid HX.out.1
 have YL : Hid (ys.length = fs.length) := Lib.hid HY.out.1
 by_cases h0 : xs.length = 0
 ·
  have OP : Hid (onePath es fs) := Lib.hid (fun u hu => absurd (List.length_pos_of_mem hu) (by have := XL.out; omega))
  have YES : Hid (shJoinE es fs = (0, fs.foldl putE es)) := Lib.hid (by unfold shJoinE; rw [if_pos ⟨SA.out, SB.out, OP.out⟩])
  have l0 : ¬ (0 : Int) < (xs.length : Int) := by omega
  have l1 : ¬ 0 < xs.length := by omega
  have l2 : decide ((0 : Int) < (xs.length : Int)) = false := decide_eq_false (by omega)
  have l3 : decide (0 < xs.length) = false := decide_eq_false (by omega)
  clear h0
  refine wp_region_held_drew (S := fun w' => Chg [] w w') (by kernel_rfl) (Chg.refl [] w).drew (fun hHeld => ?_)
  refine sy 0 11 rfl rfl ?_; try simp only [Act.put, sA, s0, s1]
  refine wpAnyH_ready (rs := [1]) (by kernel_rfl) (by simp) ?_; refine AllReadyH.cons rfl (fun K hK => ?_) AllReadyH.nil; replace hK := Lib.hid hK; go_simp
  refine (SCA.out _ hHeld).mono ?_
  rintro r w3 ⟨rfl, hc⟩
  rw [e1]
  have C9 := Lib.hid (hHeld.trans hc)
  clear hc hHeld
  refine hK.out _ _ C9.out (fun hHeld => ?_)
  clear hK K; try simp only [Act.put, sA, s0, s1]
  refine sy 2 13 rfl rfl ?_; try simp only [Act.put, sA, s0, s1]
  refine sy 3 14 rfl rfl ?_; try simp only [Act.put, sA, s0, s1]
  refine sy 4 15 rfl rfl ?_; try simp only [Act.put, sA, s0, s1]
  refine wpAnyH_ready (rs := [5]) (by kernel_rfl) (by simp) ?_; refine AllReadyH.cons rfl (fun K hK => ?_) AllReadyH.nil; replace hK := Lib.hid hK; go_simp
  refine (SCB.out _ hHeld).mono ?_
  rintro r w4 ⟨rfl, hc⟩
  rw [e2]
  have C9 := Lib.hid (hHeld.trans hc)
  clear hc hHeld
  refine hK.out _ _ C9.out (fun hHeld => ?_)
  clear hK K; try simp only [Act.put, sA, s0, s1]
  refine sy 6 17 rfl rfl ?_; try simp only [Act.put, sA, s0, s1]
  refine sy 7 18 rfl rfl ?_; try simp only [Act.put, sA, s0, s1]
  refine sy 8 19 rfl rfl ?_; try simp only [Act.put, sA, s0, s1]
  refine sy 9 20 rfl rfl ?_; try simp only [Act.put, sA, s0, s1]
  refine sy 10 21 rfl rfl ?_; try simp only [Act.put, sA, s0, s1]
  refine sy 11 22 rfl rfl ?_; try simp only [Act.put, sA, s0, s1]
  refine sy 12 23 rfl rfl ?_; try simp only [Act.put, sA, s0, s1]
  refine sn 13 24 rfl rfl ?_; try simp only [Act.put, sA, s0, s1]
  refine sn 14 25 rfl rfl ?_; try simp only [Act.put, sA, s0, s1]
  refine sn 15 26 rfl rfl ?_; try simp only [Act.put, sA, s0, s1]
  refine sy 16 27 rfl rfl ?_; try simp only [Act.put, sA, s0, s1]
  refine sy 17 28 rfl rfl ?_; try simp only [Act.put, sA, s0, s1]
  refine sn 18 29 rfl rfl ?_; try simp only [Act.put, sA, s0, s1]
  refine sn 19 30 rfl rfl ?_; try simp only [Act.put, sA, s0, s1]
  refine sn 20 31 rfl rfl ?_; try simp only [Act.put, sA, s0, s1]
  refine sn 21 32 rfl rfl ?_; try simp only [Act.put, sA, s0, s1]
  refine sn 22 33 rfl rfl ?_; try simp only [Act.put, sA, s0, s1]
  refine sn 23 34 rfl rfl ?_; try simp only [Act.put, sA, s0, s1]
  refine sn 24 35 rfl rfl ?_; try simp only [Act.put, sA, s0, s1]
  refine sn 25 36 rfl rfl ?_; try simp only [Act.put, sA, s0, s1]
  refine sn 26 37 rfl rfl ?_; try simp only [Act.put, sA, s0, s1]
  refine sy 27 38 rfl rfl ?_; try simp only [Act.put, sA, s0, s1]
  refine sy 28 39 rfl rfl ?_; try simp only [Act.put, sA, s0, s1]
  refine wpAnyH_done (by kernel_rfl) ?_ _; clear l0 l1 l2 l3; clear hHeld SCA SCB; go_wp2
  go_loopw [6, 7] (fun v6 v7 wr => ∃ (k : Nat) (A1 : Option Addr) (d1 : Nat) (zs : List EvT) (cs : List EvP), k ≤ ys.length ∧ v7 = .int .i64 k ∧ v6 = .slice A1 zs.length d1 ∧ Hid (cs = (fs.take k).foldl putE es) ∧ Hid (RdK evTy wr A1 zs.length zs) ∧ Hid (EvsR wr zs cs) ∧ Hid (Chg [] w wr)) (fun _ v7 _ => ys.length - (RowKit.intOf v7).toNat)
  case atStart => exact ⟨0, A, c, xs, es, Nat.zero_le _, rfl, rfl, Lib.hid rfl, Lib.hid (HA.out.chg C9.out (by simp)), Lib.hid (HX.out.chg C9.out), C9⟩
  case round =>
   clear C9
   obtain ⟨k, A1, d1, zs, cs, hk, rfl, rfl, CS, RR, RE, PC⟩ := hrel
   have j0 : (0 : Int) ≤ (k : Int) := by omega
   by_cases hlt : k < ys.length
   ·
    have j1 : (k : Int) < (ys.length : Int) := by omega
    have j3 : IntKind.i64.wrap ((k : Int) + 1) = (k : Int) + 1 := IntWalk.i64_in _ (by have := HN.out; omega)
    obtain ⟨g5, o5, eB, _⟩ := HB.out.line (by omega)
    have EB := Lib.hid eB
    obtain ⟨x, e, ex, ee, rx⟩ := HY.out.at_ hlt
    obtain ⟨z0, z1, z2, z3, z4, z5, z6⟩ := evCells ((eB ▸ HB.out).chg PC.out (by simp)) ex
    have EE := Lib.hid ee
    have EM := Lib.hid (List.mem_of_getElem? ee)
    have OKC : Hid (ShOk cs) := Lib.hid (by
     rw [CS.out]
     exact puts_ok (fs.take k) es SA.out (fun y hy => SB.out.1 y (List.mem_of_mem_take hy)) (fun u hu v hv => OP.out u hu v (List.mem_of_mem_take hv)) (fun u hu v hv => SB.out.2.1 u (List.mem_of_mem_take hu) v (List.mem_of_mem_take hv)))
    have CMEM : Hid (∀ f ∈ cs, EvSm f) := Lib.hid (fun f hf => by
     rw [CS.out] at hf
     rcases puts_mem hf with q | q
     ·
      exact HS.out f q
     ·
      exact HT.out f (List.mem_of_mem_take q))
    have ZL : Hid (zs.length ≤ 1000) := Lib.hid (by
     have a := RE.out.1
     have b := puts_len (fs.take k) es
     rw [← CS.out, List.length_take] at b
     have := HN.out
     have := HX.out.1
     omega)
    have CALL := Lib.hid (ksput_any wr A1 d1 zs cs x e RR.out RE.out ZL.out CMEM.out (rx.chg PC.out) (HT.out e EM.out) OKC.out.2.2.1)
    clear ex ee rx
    (rw [EB.out]; clear eB)
    go_wp2_with fail; clear z0 z1 z2 z3 z4 z5 z6
    refine CALL.out.mono ?_
    rintro r w7 ⟨A7, c7, us, rfl, hl, hu, hrd, hc⟩
    replace PC := Lib.hid (PC.out.trans hc)
    have R7 := Lib.hid hrd
    have E7 := Lib.hid (hu.chg hc)
    have CS1 : Hid (putE cs e = (fs.take (k + 1)).foldl putE es) := Lib.hid (by
     rw [List.take_add_one, EE.out]
     simp only [Option.toList, List.foldl_append, List.foldl_cons, List.foldl_nil]
     rw [← CS.out])
    clear hl hu hrd hc CALL RR RE; go_wp2; go_round
    case rel => exact ⟨k + 1, A7, c7, us, putE cs e, by omega, by go_num, rfl, CS1, R7, E7, PC⟩
    case measure => simp [RowKit.intOf]; omega
   ·
    obtain rfl : k = ys.length := by omega
    have j1 : ¬ (ys.length : Int) < (ys.length : Int) := by omega
    have CF : Hid (cs = fs.foldl putE es) := Lib.hid (by rw [CS.out, HY.out.1, List.take_length])
    have CQ : Hid (∀ f ∈ cs, f.b.length ≤ 140737488351232 ∧ f.q.length ≤ 100000) := Lib.hid (fun f hf => by
     rw [CF.out] at hf
     rcases puts_mem hf with q | q
     ·
      exact ⟨(HS.out f q).2.1, (HQ.out f q).2⟩
     ·
      exact ⟨(HT.out f q).2.1, (HR.out f q).2⟩)
    have ZL : Hid (zs.length ≤ 1000) := Lib.hid (by
     have a := RE.out.1
     have b := puts_len fs es
     rw [← CF.out] at b
     have := HN.out
     have := HX.out.1
     have := HY.out.1
     omega)
    clear CS hlt hk; go_wp2
    generalize wr = wl at *
    clear wr
    go_loopw [8, 9] (fun o i wq => ∃ (k : Nat) (A2 : Option Addr) (d2 : Nat) (us : List EvT), k ≤ zs.length ∧ us.length = k ∧ i = .int .i64 k ∧ o = .slice A2 us.length d2 ∧ Hid (OwnK evTy wq A2 d2 us) ∧ Hid (EvsR wq us (cs.take k)) ∧ Hid (ApartE wq A2 us) ∧ Hid (∀ a, A2 = some a → wl.heap.size ≤ a.block) ∧ Hid (Chg [] wl wq)) (fun _ i _ => zs.length - (RowKit.intOf i).toNat)
    case atStart => exact ⟨0, none, 0, [], Nat.zero_le _, rfl, rfl, rfl, OwnK.none_ _, Lib.hid (by simpa using EvsR.nil _), Lib.hid (fun x hx => by simp at hx), Lib.hid (by simp), Chg.refl _ _⟩
    case round =>
     obtain ⟨k, A2, d2, us, hk, hyl, rfl, rfl, RO, RU, RA, RN, RC⟩ := hrel
     have i0 : (0 : Int) ≤ (k : Int) := by omega
     by_cases hlt : k < zs.length
     ·
      have i1 : (k : Int) < (zs.length : Int) := by omega
      have i3 : IntKind.i64.wrap ((k : Int) + 1) = (k : Int) + 1 := IntWalk.i64_in _ (by have := ZL.out; omega)
      obtain ⟨g, o, eA, _⟩ := RR.out.line (by omega)
      subst eA
      obtain ⟨x, e, ex, ee, rx⟩ := RE.out.at_ hlt
      obtain ⟨z0, z1, z2, z3, z4, z5, z6⟩ := evCells (RR.out.chg RC.out (by simp)) ex
      have RX := Lib.hid rx
      have ET : Hid (cs.take (k + 1) = cs.take k ++ [e]) := Lib.hid (by rw [List.take_add_one, ee]; rfl)
      have EQ := Lib.hid (CQ.out e (List.mem_of_getElem? ee))
      have YL := Lib.hid hyl
      clear ex ee rx hyl; go_wp2_with fail; clear z0 z1 z2 z3 z4 z5 z6
      refine (ksown_any _ x e (RX.out.chg RC.out) EQ.out).mono ?_
      rintro r w2 ⟨A', c', B', d', rfl, hR, hA, hB, hnA, hnB, hne, hc⟩
      obtain ⟨X, hX⟩ : ∃ X : EvT, X = ⟨x.n, x.s, x.p, x.k, x.m, A', x.l, c', B', x.bl, d'⟩ := ⟨_, rfl⟩
      rw [← hX] at hR
      have fX : X.A = A' ∧ X.B = B' := by rw [hX]; exact ⟨rfl, rfl⟩
      have KA : Hid (∀ a, X.A = some a → a.block < w2.heap.size ∧ wr.heap.size ≤ a.block) := Lib.hid (fun a ha => by rw [fX.1] at ha; exact ⟨hA.lt a ha, hnA a ha⟩)
      have KB : Hid (∀ a, X.B = some a → a.block < w2.heap.size ∧ wr.heap.size ≤ a.block) := Lib.hid (fun a ha => by rw [fX.2] at ha; exact ⟨hB.lt a ha, hnB a ha⟩)
      have KC : Hid (X.bl ≤ X.bc ∧ X.bc ≤ maxLen) := Lib.hid (by have q := hB.cap; rw [hX]; show x.bl ≤ d' ∧ d' ≤ maxLen; have := RX.out.bl; exact ⟨by omega, q.2⟩)
      have LA1 := Lib.hid RO.out.lt
      have XR := Lib.hid hR
      replace RO := Lib.hid (RO.out.chg hc (by simp))
      replace RU := Lib.hid (RU.out.chg hc)
      have S2 := Lib.hid hc.size
      replace RC := Lib.hid (RC.out.trans hc)
      have EX : Hid (Value.agg #[.int .i64 x.n, .int .i64 x.s, .string x.p, .int .i64 x.k, .int .i64 x.m, .slice A' x.l c', .slice B' x.bl d'] = .agg #[.int .i64 X.n, .int .i64 X.s, .string X.p, .int .i64 X.k, .int .i64 X.m, .slice X.A X.l X.c, .slice X.B X.bl X.bc]) := Lib.hid (by rw [hX])
      rw [EX.out]
      clear hR hA hB hnA hnB hne hc hX fX EX
      obtain ⟨w3, hw, hc, b0, b3⟩ := news2 w2 (.cells #[.int .i64 X.n, .int .i64 X.s, .string X.p, .int .i64 X.k, .int .i64 X.m, .slice X.A X.l X.c, .slice X.B X.bl X.bc] 30) (.cells #[.int .i64 X.n, .int .i64 X.s, .string X.p, .int .i64 X.k, .int .i64 X.m, .slice X.A X.l X.c, .slice X.B X.bl X.bc] 30)
      have W3 := Lib.hid hw
      obtain ⟨v3, hv3⟩ : ∃ v3, w2.alloc (.cells #[.int .i64 X.n, .int .i64 X.s, .string X.p, .int .i64 X.k, .int .i64 X.m, .slice X.A X.l X.c, .slice X.B X.bl X.bc] 30) = v3 := ⟨_, rfl⟩
      have V3 := Lib.hid hv3
      have R3 := Lib.hid (rd_oneEc b3)
      replace RO := Lib.hid (RO.out.chg hc (by simp))
      replace RU := Lib.hid (RU.out.chg hc)
      replace XR := Lib.hid (XR.out.chg hc)
      have S3 := Lib.hid hc.size
      replace RC := Lib.hid (RC.out.trans hc)
      clear hw hc b3 hv3
      have N4 : Hid ((us.length + 1) * 400 ≤ 140737488355327) := Lib.hid (by have := YL.out; have := ZL.out; omega)
      go_wp2_with (at_builtin; rw [← W3.out]; refine wpList_appK (R := evTy) rfl (.tmp 64) (.tmp 66) rfl rfl (A := A2) (n := us.length) (m := 1) (c := d2) (d := 1) (xs := us) (ys := [X]) RO.out rfl rfl R3.out N4.out ?_; intro A7 c7 w7 o7 g7 e7; have O7 := Lib.hid o7; have F7 := Lib.hid (fresh_appE RN.out RC.out g7 e7); have G7 := Lib.hid g7; have E7 := Lib.hid e7; clear o7 g7 e7)
      have CG : Hid (Chg (blkOf A2) w3 w7) := Lib.hid ((Chg.refl (blkOf A2) w3).grown G7.out (fun i hi => by
       cases A2 with
       | none => simp at hi
       | some a => simp at hi; subst hi; exact .inl (mem_blkOf rfl)))
      have RE7 : Hid (EvsR w7 (us ++ [X]) (cs.take (k + 1))) := Lib.hid (by
       rw [ET.out]
       refine EvsR.snoc (RU.out.chgS CG.out (fun y hy => ⟨fun a ha q => ?_, fun a ha q => ?_⟩)) (XR.out.chgS CG.out (fun a ha q => ?_) (fun a ha q => ?_))
       ·
        obtain ⟨b, hb, e⟩ := of_blkOf q; exact ((RA.out y hy).1 a ha).2 b hb e.symm
       ·
        obtain ⟨b, hb, e⟩ := of_blkOf q; exact ((RA.out y hy).2.1 a ha).2 b hb e.symm
       ·
        obtain ⟨b, hb, e⟩ := of_blkOf q; have := LA1.out b hb; have := (KA.out a ha).2; omega
       ·
        obtain ⟨b, hb, e⟩ := of_blkOf q; have := LA1.out b hb; have := (KB.out a ha).2; omega)
      have RA7 : Hid (ApartE w7 A7 (us ++ [X])) := Lib.hid (fun y hy => by
       have s7 := CG.out.size
       have s3 := S3.out
       have s2 := S2.out
       have lo : ∀ a : Addr, a.block < w3.heap.size → (∀ b, A2 = some b → a.block ≠ b.block) → a.block < w7.heap.size ∧ ∀ b, A7 = some b → a.block ≠ b.block := fun a h1 h2 => ⟨by omega, fun b hb => by
        rcases E7.out with q | q
        ·
         rw [q] at hb; exact h2 b hb
        ·
         rw [q] at hb; cases hb; exact Nat.ne_of_lt h1⟩
       rcases List.mem_append.1 hy with r | r
       ·
        exact ⟨fun a ha => lo a (by have := ((RA.out y r).1 a ha).1; omega) ((RA.out y r).1 a ha).2, fun a ha => lo a (by have := ((RA.out y r).2.1 a ha).1; omega) ((RA.out y r).2.1 a ha).2, (RA.out y r).2.2⟩
       ·
        simp at r
        subst r
        exact ⟨fun a ha => lo a (by have := (KA.out a ha).1; omega) (fun b hb => by have := LA1.out b hb; have := (KA.out a ha).2; omega), fun a ha => lo a (by have := (KB.out a ha).1; omega) (fun b hb => by have := LA1.out b hb; have := (KB.out a ha).2; omega), KC.out⟩)
      clear CG G7 E7 RO RU RA; go_wp2; go_round
      case rel => exact ⟨k + 1, A7, c7, us ++ [X], by omega, by simp [YL.out], by go_num, by simp, O7, RE7, RA7, Lib.hid F7.out.1, F7.out.2⟩
      case measure => simp [RowKit.intOf]; omega
     ·
      obtain rfl : k = zs.length := by omega
      have i1 : ¬ (zs.length : Int) < (zs.length : Int) := by omega
      have ET : cs.take zs.length = cs := by rw [RE.out.1]; exact List.take_length
      rw [ET] at RU
      have YL := Lib.hid hyl
      clear hyl ET; go_wp2; go_ret2
      rw [YES.out, ← CF.out]
      exact ⟨A2, d2, us, rfl, RO.out.reads, RU.out, PC.out.trans RC.out⟩
 have l0 : (0 : Int) < (xs.length : Int) := by omega
 have l1 : 0 < xs.length := by omega
 have l2 : decide ((0 : Int) < (xs.length : Int)) = true := decide_eq_true (by omega)
 have l3 : decide (0 < xs.length) = true := decide_eq_true (by omega)
 clear h0
 by_cases h0 : ys.length = 0
 ·
  have OP : Hid (onePath es fs) := Lib.hid (fun u hu v hv => absurd (List.length_pos_of_mem hv) (by have := YL.out; omega))
  have YES : Hid (shJoinE es fs = (0, fs.foldl putE es)) := Lib.hid (by unfold shJoinE; rw [if_pos ⟨SA.out, SB.out, OP.out⟩])
  have m0 : ¬ (0 : Int) < (ys.length : Int) := by omega
  have m1 : ¬ 0 < ys.length := by omega
  have m2 : decide ((0 : Int) < (ys.length : Int)) = false := decide_eq_false (by omega)
  have m3 : decide (0 < ys.length) = false := decide_eq_false (by omega)
  clear h0
  refine wp_region_held_drew (S := fun w' => Chg [] w w') (by kernel_rfl) (Chg.refl [] w).drew (fun hHeld => ?_)
  refine sy 0 11 rfl rfl ?_; try simp only [Act.put, sA, s0, s1]
  refine wpAnyH_ready (rs := [1]) (by kernel_rfl) (by simp) ?_; refine AllReadyH.cons rfl (fun K hK => ?_) AllReadyH.nil; replace hK := Lib.hid hK; go_simp
  refine (SCA.out _ hHeld).mono ?_
  rintro r w3 ⟨rfl, hc⟩
  rw [e1]
  have C9 := Lib.hid (hHeld.trans hc)
  clear hc hHeld
  refine hK.out _ _ C9.out (fun hHeld => ?_)
  clear hK K; try simp only [Act.put, sA, s0, s1]
  refine sy 2 13 rfl rfl ?_; try simp only [Act.put, sA, s0, s1]
  refine sy 3 14 rfl rfl ?_; try simp only [Act.put, sA, s0, s1]
  refine sy 4 15 rfl rfl ?_; try simp only [Act.put, sA, s0, s1]
  refine wpAnyH_ready (rs := [5]) (by kernel_rfl) (by simp) ?_; refine AllReadyH.cons rfl (fun K hK => ?_) AllReadyH.nil; replace hK := Lib.hid hK; go_simp
  refine (SCB.out _ hHeld).mono ?_
  rintro r w4 ⟨rfl, hc⟩
  rw [e2]
  have C9 := Lib.hid (hHeld.trans hc)
  clear hc hHeld
  refine hK.out _ _ C9.out (fun hHeld => ?_)
  clear hK K; try simp only [Act.put, sA, s0, s1]
  refine sy 6 17 rfl rfl ?_; try simp only [Act.put, sA, s0, s1]
  refine sy 7 18 rfl rfl ?_; try simp only [Act.put, sA, s0, s1]
  refine sy 8 19 rfl rfl ?_; try simp only [Act.put, sA, s0, s1]
  refine sy 9 20 rfl rfl ?_; try simp only [Act.put, sA, s0, s1]
  refine sy 10 21 rfl rfl ?_; try simp only [Act.put, sA, s0, s1]
  refine sy 11 22 rfl rfl ?_; try simp only [Act.put, sA, s0, s1]
  refine sy 12 23 rfl rfl ?_; try simp only [Act.put, sA, s0, s1]
  refine sy 13 24 rfl rfl ?_; try simp only [Act.put, sA, s0, s1]
  refine sy 14 25 rfl rfl ?_; try simp only [Act.put, sA, s0, s1]
  refine sy 15 26 rfl rfl ?_; try simp only [Act.put, sA, s0, s1]
  refine sy 16 27 rfl rfl ?_; try simp only [Act.put, sA, s0, s1]
  refine sy 17 28 rfl rfl ?_; try simp only [Act.put, sA, s0, s1]
  refine sn 18 29 rfl rfl ?_; try simp only [Act.put, sA, s0, s1]
  refine sn 19 30 rfl rfl ?_; try simp only [Act.put, sA, s0, s1]
  refine sn 20 31 rfl rfl ?_; try simp only [Act.put, sA, s0, s1]
  refine sn 21 32 rfl rfl ?_; try simp only [Act.put, sA, s0, s1]
  refine sn 22 33 rfl rfl ?_; try simp only [Act.put, sA, s0, s1]
  refine sn 23 34 rfl rfl ?_; try simp only [Act.put, sA, s0, s1]
  refine sn 24 35 rfl rfl ?_; try simp only [Act.put, sA, s0, s1]
  refine sn 25 36 rfl rfl ?_; try simp only [Act.put, sA, s0, s1]
  refine sn 26 37 rfl rfl ?_; try simp only [Act.put, sA, s0, s1]
  refine sy 27 38 rfl rfl ?_; try simp only [Act.put, sA, s0, s1]
  refine sy 28 39 rfl rfl ?_; try simp only [Act.put, sA, s0, s1]
  refine wpAnyH_done (by kernel_rfl) ?_ _; clear l0 l1 l2 l3 m0 m1 m2 m3; clear hHeld SCA SCB; go_wp2
  go_loopw [6, 7] (fun v6 v7 wr => ∃ (k : Nat) (A1 : Option Addr) (d1 : Nat) (zs : List EvT) (cs : List EvP), k ≤ ys.length ∧ v7 = .int .i64 k ∧ v6 = .slice A1 zs.length d1 ∧ Hid (cs = (fs.take k).foldl putE es) ∧ Hid (RdK evTy wr A1 zs.length zs) ∧ Hid (EvsR wr zs cs) ∧ Hid (Chg [] w wr)) (fun _ v7 _ => ys.length - (RowKit.intOf v7).toNat)
  case atStart => exact ⟨0, A, c, xs, es, Nat.zero_le _, rfl, rfl, Lib.hid rfl, Lib.hid (HA.out.chg C9.out (by simp)), Lib.hid (HX.out.chg C9.out), C9⟩
  case round =>
   clear C9
   obtain ⟨k, A1, d1, zs, cs, hk, rfl, rfl, CS, RR, RE, PC⟩ := hrel
   have j0 : (0 : Int) ≤ (k : Int) := by omega
   by_cases hlt : k < ys.length
   ·
    have j1 : (k : Int) < (ys.length : Int) := by omega
    have j3 : IntKind.i64.wrap ((k : Int) + 1) = (k : Int) + 1 := IntWalk.i64_in _ (by have := HN.out; omega)
    obtain ⟨g5, o5, eB, _⟩ := HB.out.line (by omega)
    have EB := Lib.hid eB
    obtain ⟨x, e, ex, ee, rx⟩ := HY.out.at_ hlt
    obtain ⟨z0, z1, z2, z3, z4, z5, z6⟩ := evCells ((eB ▸ HB.out).chg PC.out (by simp)) ex
    have EE := Lib.hid ee
    have EM := Lib.hid (List.mem_of_getElem? ee)
    have OKC : Hid (ShOk cs) := Lib.hid (by
     rw [CS.out]
     exact puts_ok (fs.take k) es SA.out (fun y hy => SB.out.1 y (List.mem_of_mem_take hy)) (fun u hu v hv => OP.out u hu v (List.mem_of_mem_take hv)) (fun u hu v hv => SB.out.2.1 u (List.mem_of_mem_take hu) v (List.mem_of_mem_take hv)))
    have CMEM : Hid (∀ f ∈ cs, EvSm f) := Lib.hid (fun f hf => by
     rw [CS.out] at hf
     rcases puts_mem hf with q | q
     ·
      exact HS.out f q
     ·
      exact HT.out f (List.mem_of_mem_take q))
    have ZL : Hid (zs.length ≤ 1000) := Lib.hid (by
     have a := RE.out.1
     have b := puts_len (fs.take k) es
     rw [← CS.out, List.length_take] at b
     have := HN.out
     have := HX.out.1
     omega)
    have CALL := Lib.hid (ksput_any wr A1 d1 zs cs x e RR.out RE.out ZL.out CMEM.out (rx.chg PC.out) (HT.out e EM.out) OKC.out.2.2.1)
    clear ex ee rx
    (rw [EB.out]; clear eB)
    go_wp2_with fail; clear z0 z1 z2 z3 z4 z5 z6
    refine CALL.out.mono ?_
    rintro r w7 ⟨A7, c7, us, rfl, hl, hu, hrd, hc⟩
    replace PC := Lib.hid (PC.out.trans hc)
    have R7 := Lib.hid hrd
    have E7 := Lib.hid (hu.chg hc)
    have CS1 : Hid (putE cs e = (fs.take (k + 1)).foldl putE es) := Lib.hid (by
     rw [List.take_add_one, EE.out]
     simp only [Option.toList, List.foldl_append, List.foldl_cons, List.foldl_nil]
     rw [← CS.out])
    clear hl hu hrd hc CALL RR RE; go_wp2; go_round
    case rel => exact ⟨k + 1, A7, c7, us, putE cs e, by omega, by go_num, rfl, CS1, R7, E7, PC⟩
    case measure => simp [RowKit.intOf]; omega
   ·
    obtain rfl : k = ys.length := by omega
    have j1 : ¬ (ys.length : Int) < (ys.length : Int) := by omega
    have CF : Hid (cs = fs.foldl putE es) := Lib.hid (by rw [CS.out, HY.out.1, List.take_length])
    have CQ : Hid (∀ f ∈ cs, f.b.length ≤ 140737488351232 ∧ f.q.length ≤ 100000) := Lib.hid (fun f hf => by
     rw [CF.out] at hf
     rcases puts_mem hf with q | q
     ·
      exact ⟨(HS.out f q).2.1, (HQ.out f q).2⟩
     ·
      exact ⟨(HT.out f q).2.1, (HR.out f q).2⟩)
    have ZL : Hid (zs.length ≤ 1000) := Lib.hid (by
     have a := RE.out.1
     have b := puts_len fs es
     rw [← CF.out] at b
     have := HN.out
     have := HX.out.1
     have := HY.out.1
     omega)
    clear CS hlt hk; go_wp2
    generalize wr = wl at *
    clear wr
    go_loopw [8, 9] (fun o i wq => ∃ (k : Nat) (A2 : Option Addr) (d2 : Nat) (us : List EvT), k ≤ zs.length ∧ us.length = k ∧ i = .int .i64 k ∧ o = .slice A2 us.length d2 ∧ Hid (OwnK evTy wq A2 d2 us) ∧ Hid (EvsR wq us (cs.take k)) ∧ Hid (ApartE wq A2 us) ∧ Hid (∀ a, A2 = some a → wl.heap.size ≤ a.block) ∧ Hid (Chg [] wl wq)) (fun _ i _ => zs.length - (RowKit.intOf i).toNat)
    case atStart => exact ⟨0, none, 0, [], Nat.zero_le _, rfl, rfl, rfl, OwnK.none_ _, Lib.hid (by simpa using EvsR.nil _), Lib.hid (fun x hx => by simp at hx), Lib.hid (by simp), Chg.refl _ _⟩
    case round =>
     obtain ⟨k, A2, d2, us, hk, hyl, rfl, rfl, RO, RU, RA, RN, RC⟩ := hrel
     have i0 : (0 : Int) ≤ (k : Int) := by omega
     by_cases hlt : k < zs.length
     ·
      have i1 : (k : Int) < (zs.length : Int) := by omega
      have i3 : IntKind.i64.wrap ((k : Int) + 1) = (k : Int) + 1 := IntWalk.i64_in _ (by have := ZL.out; omega)
      obtain ⟨g, o, eA, _⟩ := RR.out.line (by omega)
      subst eA
      obtain ⟨x, e, ex, ee, rx⟩ := RE.out.at_ hlt
      obtain ⟨z0, z1, z2, z3, z4, z5, z6⟩ := evCells (RR.out.chg RC.out (by simp)) ex
      have RX := Lib.hid rx
      have ET : Hid (cs.take (k + 1) = cs.take k ++ [e]) := Lib.hid (by rw [List.take_add_one, ee]; rfl)
      have EQ := Lib.hid (CQ.out e (List.mem_of_getElem? ee))
      have YL := Lib.hid hyl
      clear ex ee rx hyl; go_wp2_with fail; clear z0 z1 z2 z3 z4 z5 z6
      refine (ksown_any _ x e (RX.out.chg RC.out) EQ.out).mono ?_
      rintro r w2 ⟨A', c', B', d', rfl, hR, hA, hB, hnA, hnB, hne, hc⟩
      obtain ⟨X, hX⟩ : ∃ X : EvT, X = ⟨x.n, x.s, x.p, x.k, x.m, A', x.l, c', B', x.bl, d'⟩ := ⟨_, rfl⟩
      rw [← hX] at hR
      have fX : X.A = A' ∧ X.B = B' := by rw [hX]; exact ⟨rfl, rfl⟩
      have KA : Hid (∀ a, X.A = some a → a.block < w2.heap.size ∧ wr.heap.size ≤ a.block) := Lib.hid (fun a ha => by rw [fX.1] at ha; exact ⟨hA.lt a ha, hnA a ha⟩)
      have KB : Hid (∀ a, X.B = some a → a.block < w2.heap.size ∧ wr.heap.size ≤ a.block) := Lib.hid (fun a ha => by rw [fX.2] at ha; exact ⟨hB.lt a ha, hnB a ha⟩)
      have KC : Hid (X.bl ≤ X.bc ∧ X.bc ≤ maxLen) := Lib.hid (by have q := hB.cap; rw [hX]; show x.bl ≤ d' ∧ d' ≤ maxLen; have := RX.out.bl; exact ⟨by omega, q.2⟩)
      have LA1 := Lib.hid RO.out.lt
      have XR := Lib.hid hR
      replace RO := Lib.hid (RO.out.chg hc (by simp))
      replace RU := Lib.hid (RU.out.chg hc)
      have S2 := Lib.hid hc.size
      replace RC := Lib.hid (RC.out.trans hc)
      have EX : Hid (Value.agg #[.int .i64 x.n, .int .i64 x.s, .string x.p, .int .i64 x.k, .int .i64 x.m, .slice A' x.l c', .slice B' x.bl d'] = .agg #[.int .i64 X.n, .int .i64 X.s, .string X.p, .int .i64 X.k, .int .i64 X.m, .slice X.A X.l X.c, .slice X.B X.bl X.bc]) := Lib.hid (by rw [hX])
      rw [EX.out]
      clear hR hA hB hnA hnB hne hc hX fX EX
      obtain ⟨w3, hw, hc, b0, b3⟩ := news2 w2 (.cells #[.int .i64 X.n, .int .i64 X.s, .string X.p, .int .i64 X.k, .int .i64 X.m, .slice X.A X.l X.c, .slice X.B X.bl X.bc] 30) (.cells #[.int .i64 X.n, .int .i64 X.s, .string X.p, .int .i64 X.k, .int .i64 X.m, .slice X.A X.l X.c, .slice X.B X.bl X.bc] 30)
      have W3 := Lib.hid hw
      obtain ⟨v3, hv3⟩ : ∃ v3, w2.alloc (.cells #[.int .i64 X.n, .int .i64 X.s, .string X.p, .int .i64 X.k, .int .i64 X.m, .slice X.A X.l X.c, .slice X.B X.bl X.bc] 30) = v3 := ⟨_, rfl⟩
      have V3 := Lib.hid hv3
      have R3 := Lib.hid (rd_oneEc b3)
      replace RO := Lib.hid (RO.out.chg hc (by simp))
      replace RU := Lib.hid (RU.out.chg hc)
      replace XR := Lib.hid (XR.out.chg hc)
      have S3 := Lib.hid hc.size
      replace RC := Lib.hid (RC.out.trans hc)
      clear hw hc b3 hv3
      have N4 : Hid ((us.length + 1) * 400 ≤ 140737488355327) := Lib.hid (by have := YL.out; have := ZL.out; omega)
      go_wp2_with (at_builtin; rw [← W3.out]; refine wpList_appK (R := evTy) rfl (.tmp 64) (.tmp 66) rfl rfl (A := A2) (n := us.length) (m := 1) (c := d2) (d := 1) (xs := us) (ys := [X]) RO.out rfl rfl R3.out N4.out ?_; intro A7 c7 w7 o7 g7 e7; have O7 := Lib.hid o7; have F7 := Lib.hid (fresh_appE RN.out RC.out g7 e7); have G7 := Lib.hid g7; have E7 := Lib.hid e7; clear o7 g7 e7)
      have CG : Hid (Chg (blkOf A2) w3 w7) := Lib.hid ((Chg.refl (blkOf A2) w3).grown G7.out (fun i hi => by
       cases A2 with
       | none => simp at hi
       | some a => simp at hi; subst hi; exact .inl (mem_blkOf rfl)))
      have RE7 : Hid (EvsR w7 (us ++ [X]) (cs.take (k + 1))) := Lib.hid (by
       rw [ET.out]
       refine EvsR.snoc (RU.out.chgS CG.out (fun y hy => ⟨fun a ha q => ?_, fun a ha q => ?_⟩)) (XR.out.chgS CG.out (fun a ha q => ?_) (fun a ha q => ?_))
       ·
        obtain ⟨b, hb, e⟩ := of_blkOf q; exact ((RA.out y hy).1 a ha).2 b hb e.symm
       ·
        obtain ⟨b, hb, e⟩ := of_blkOf q; exact ((RA.out y hy).2.1 a ha).2 b hb e.symm
       ·
        obtain ⟨b, hb, e⟩ := of_blkOf q; have := LA1.out b hb; have := (KA.out a ha).2; omega
       ·
        obtain ⟨b, hb, e⟩ := of_blkOf q; have := LA1.out b hb; have := (KB.out a ha).2; omega)
      have RA7 : Hid (ApartE w7 A7 (us ++ [X])) := Lib.hid (fun y hy => by
       have s7 := CG.out.size
       have s3 := S3.out
       have s2 := S2.out
       have lo : ∀ a : Addr, a.block < w3.heap.size → (∀ b, A2 = some b → a.block ≠ b.block) → a.block < w7.heap.size ∧ ∀ b, A7 = some b → a.block ≠ b.block := fun a h1 h2 => ⟨by omega, fun b hb => by
        rcases E7.out with q | q
        ·
         rw [q] at hb; exact h2 b hb
        ·
         rw [q] at hb; cases hb; exact Nat.ne_of_lt h1⟩
       rcases List.mem_append.1 hy with r | r
       ·
        exact ⟨fun a ha => lo a (by have := ((RA.out y r).1 a ha).1; omega) ((RA.out y r).1 a ha).2, fun a ha => lo a (by have := ((RA.out y r).2.1 a ha).1; omega) ((RA.out y r).2.1 a ha).2, (RA.out y r).2.2⟩
       ·
        simp at r
        subst r
        exact ⟨fun a ha => lo a (by have := (KA.out a ha).1; omega) (fun b hb => by have := LA1.out b hb; have := (KA.out a ha).2; omega), fun a ha => lo a (by have := (KB.out a ha).1; omega) (fun b hb => by have := LA1.out b hb; have := (KB.out a ha).2; omega), KC.out⟩)
      clear CG G7 E7 RO RU RA; go_wp2; go_round
      case rel => exact ⟨k + 1, A7, c7, us ++ [X], by omega, by simp [YL.out], by go_num, by simp, O7, RE7, RA7, Lib.hid F7.out.1, F7.out.2⟩
      case measure => simp [RowKit.intOf]; omega
     ·
      obtain rfl : k = zs.length := by omega
      have i1 : ¬ (zs.length : Int) < (zs.length : Int) := by omega
      have ET : cs.take zs.length = cs := by rw [RE.out.1]; exact List.take_length
      rw [ET] at RU
      have YL := Lib.hid hyl
      clear hyl ET; go_wp2; go_ret2
      rw [YES.out, ← CF.out]
      exact ⟨A2, d2, us, rfl, RO.out.reads, RU.out, PC.out.trans RC.out⟩
 have m0 : (0 : Int) < (ys.length : Int) := by omega
 have m1 : 0 < ys.length := by omega
 have m2 : decide ((0 : Int) < (ys.length : Int)) = true := decide_eq_true (by omega)
 have m3 : decide (0 < ys.length) = true := decide_eq_true (by omega)
 clear h0
 obtain ⟨g3, o3, eA, _⟩ := HA.out.line (by omega)
 subst eA
 obtain ⟨g4, o4, eB, _⟩ := HB.out.line (by omega)
 subst eB
 obtain ⟨x0, e0, ex0, ee0, rx0⟩ := HX.out.at_ (show 0 < xs.length by omega)
 obtain ⟨y0, f0, ey0, ef0, ry0⟩ := HY.out.at_ (show 0 < ys.length by omega)
 have H0 : Hid (∀ w', Chg [] w w' → w'.cell? ⟨g3, o3 + 2, none⟩ = some (.string x0.p)) := Lib.hid (fun w' hc => by
  have q := evCells (HA.out.chg hc (by simp)) ex0
  rw [Nat.zero_mul, Nat.add_zero] at q
  exact q.2.2.1)
 have H1 : Hid (∀ w', Chg [] w w' → w'.cell? ⟨g4, o4 + 2, none⟩ = some (.string y0.p)) := Lib.hid (fun w' hc => by
  have q := evCells (HB.out.chg hc (by simp)) ey0
  rw [Nat.zero_mul, Nat.add_zero] at q
  exact q.2.2.1)
 have XP : Hid (x0.p = strOf e0.p ∧ y0.p = strOf f0.p) := Lib.hid ⟨rx0.p, ry0.p⟩
 have EE0 := Lib.hid ee0
 have EF0 := Lib.hid ef0
 clear ex0 ee0 rx0 ey0 ef0 ry0
 by_cases hp : e0.p = f0.p
 rotate_left
 ·
  have NO : Hid (shJoinE es fs = (2, [])) := Lib.hid (shJoin_path EE0.out EF0.out hp)
  have p1' : ((x0.p == y0.p) : Bool) = false := by rw [XP.out.1, XP.out.2]; exact strOf_ne hp
  have p2' : ¬ x0.p = y0.p := by rw [XP.out.1, XP.out.2]; exact strOf_ne2 hp
  have p3' : ¬ x0.p.toList = y0.p.toList := by rw [XP.out.1, XP.out.2]; exact strOf_ne3s hp
  have p4' : ((x0.p.toList == y0.p.toList) : Bool) = false := by simpa using p3'
  clear hp
  refine wp_region_held_drew (S := fun w' => Chg [] w w') (by kernel_rfl) (Chg.refl [] w).drew (fun hHeld => ?_)
  refine sy 0 11 rfl rfl ?_; try simp only [Act.put, sA, s0, s1]
  refine wpAnyH_ready (rs := [1]) (by kernel_rfl) (by simp) ?_; refine AllReadyH.cons rfl (fun K hK => ?_) AllReadyH.nil; replace hK := Lib.hid hK; go_simp
  refine (SCA.out _ hHeld).mono ?_
  rintro r w3 ⟨rfl, hc⟩
  rw [e1]
  have C9 := Lib.hid (hHeld.trans hc)
  clear hc hHeld
  refine hK.out _ _ C9.out (fun hHeld => ?_)
  clear hK K; try simp only [Act.put, sA, s0, s1]
  refine sy 2 13 rfl rfl ?_; try simp only [Act.put, sA, s0, s1]
  refine sy 3 14 rfl rfl ?_; try simp only [Act.put, sA, s0, s1]
  refine sy 4 15 rfl rfl ?_; try simp only [Act.put, sA, s0, s1]
  refine wpAnyH_ready (rs := [5]) (by kernel_rfl) (by simp) ?_; refine AllReadyH.cons rfl (fun K hK => ?_) AllReadyH.nil; replace hK := Lib.hid hK; go_simp
  refine (SCB.out _ hHeld).mono ?_
  rintro r w4 ⟨rfl, hc⟩
  rw [e2]
  have C9 := Lib.hid (hHeld.trans hc)
  clear hc hHeld
  refine hK.out _ _ C9.out (fun hHeld => ?_)
  clear hK K; try simp only [Act.put, sA, s0, s1]
  refine sy 6 17 rfl rfl ?_; try simp only [Act.put, sA, s0, s1]
  refine sy 7 18 rfl rfl ?_; try simp only [Act.put, sA, s0, s1]
  refine sy 8 19 rfl rfl ?_; try simp only [Act.put, sA, s0, s1]
  refine sy 9 20 rfl rfl ?_; try simp only [Act.put, sA, s0, s1]
  refine sy 10 21 rfl rfl ?_; try simp only [Act.put, sA, s0, s1]
  refine sy 11 22 rfl rfl ?_; try simp only [Act.put, sA, s0, s1]
  refine sy 12 23 rfl rfl ?_; try simp only [Act.put, sA, s0, s1]
  refine sy 13 24 rfl rfl ?_; try simp only [Act.put, sA, s0, s1]
  refine sy 14 25 rfl rfl ?_; try simp only [Act.put, sA, s0, s1]
  refine sy 15 26 rfl rfl ?_; try simp only [Act.put, sA, s0, s1]
  refine sy 16 27 rfl rfl ?_; try simp only [Act.put, sA, s0, s1]
  refine sy 17 28 rfl rfl ?_; try simp only [Act.put, sA, s0, s1]
  refine sy 18 29 rfl rfl ?_; try simp only [Act.put, sA, s0, s1]
  refine sy 19 30 rfl rfl ?_; try simp only [Act.put, sA, s0, s1]
  refine sy 20 31 rfl rfl ?_; try simp only [Act.put, sA, s0, s1]
  refine sy 21 32 rfl rfl ?_ (hy := by (intro w hSw; (try dsimp only at hSw); have hq := H0.out _ hSw; go_simp; try with_reducible rfl))
  try simp only [Act.put, sA, s0, s1]
  refine sy 22 33 rfl rfl ?_; try simp only [Act.put, sA, s0, s1]
  refine sy 23 34 rfl rfl ?_; try simp only [Act.put, sA, s0, s1]
  refine sy 24 35 rfl rfl ?_; try simp only [Act.put, sA, s0, s1]
  refine sy 25 36 rfl rfl ?_ (hy := by (intro w hSw; (try dsimp only at hSw); have hq := H1.out _ hSw; go_simp; try with_reducible rfl))
  try simp only [Act.put, sA, s0, s1]
  refine sy 26 37 rfl rfl ?_; try simp only [Act.put, sA, s0, s1]
  refine sy 27 38 rfl rfl ?_; try simp only [Act.put, sA, s0, s1]
  refine sy 28 39 rfl rfl ?_; try simp only [Act.put, sA, s0, s1]
  refine wpAnyH_done (by kernel_rfl) ?_ _; clear hHeld SCA SCB; go_wp2; go_ret2
  rw [NO.out]
  exact ⟨none, 0, [], rfl, RdK.nil _ _, EvsR.nil _, C9.out⟩
 have OP : Hid (onePath es fs) := Lib.hid (one_path SA.out SB.out (fun u v hu hv => by rw [EE0.out] at hu; rw [EF0.out] at hv; cases hu; cases hv; exact hp))
 have YES : Hid (shJoinE es fs = (0, fs.foldl putE es)) := Lib.hid (by unfold shJoinE; rw [if_pos ⟨SA.out, SB.out, OP.out⟩])
 have p1' : ((x0.p == y0.p) : Bool) = true := by rw [XP.out.1, XP.out.2, hp]; show ((f0.p.toArray == f0.p.toArray) : Bool) = true; simp
 have p4' : ((x0.p.toList == y0.p.toList) : Bool) = true := by rw [XP.out.1, XP.out.2, hp]; simp
 clear hp
 refine wp_region_held_drew (S := fun w' => Chg [] w w') (by kernel_rfl) (Chg.refl [] w).drew (fun hHeld => ?_)
 refine sy 0 11 rfl rfl ?_; try simp only [Act.put, sA, s0, s1]
 refine wpAnyH_ready (rs := [1]) (by kernel_rfl) (by simp) ?_; refine AllReadyH.cons rfl (fun K hK => ?_) AllReadyH.nil; replace hK := Lib.hid hK; go_simp
 refine (SCA.out _ hHeld).mono ?_
 rintro r w3 ⟨rfl, hc⟩
 rw [e1]
 have C9 := Lib.hid (hHeld.trans hc)
 clear hc hHeld
 refine hK.out _ _ C9.out (fun hHeld => ?_)
 clear hK K; try simp only [Act.put, sA, s0, s1]
 refine sy 2 13 rfl rfl ?_; try simp only [Act.put, sA, s0, s1]
 refine sy 3 14 rfl rfl ?_; try simp only [Act.put, sA, s0, s1]
 refine sy 4 15 rfl rfl ?_; try simp only [Act.put, sA, s0, s1]
 refine wpAnyH_ready (rs := [5]) (by kernel_rfl) (by simp) ?_; refine AllReadyH.cons rfl (fun K hK => ?_) AllReadyH.nil; replace hK := Lib.hid hK; go_simp
 refine (SCB.out _ hHeld).mono ?_
 rintro r w4 ⟨rfl, hc⟩
 rw [e2]
 have C9 := Lib.hid (hHeld.trans hc)
 clear hc hHeld
 refine hK.out _ _ C9.out (fun hHeld => ?_)
 clear hK K; try simp only [Act.put, sA, s0, s1]
 refine sy 6 17 rfl rfl ?_; try simp only [Act.put, sA, s0, s1]
 refine sy 7 18 rfl rfl ?_; try simp only [Act.put, sA, s0, s1]
 refine sy 8 19 rfl rfl ?_; try simp only [Act.put, sA, s0, s1]
 refine sy 9 20 rfl rfl ?_; try simp only [Act.put, sA, s0, s1]
 refine sy 10 21 rfl rfl ?_; try simp only [Act.put, sA, s0, s1]
 refine sy 11 22 rfl rfl ?_; try simp only [Act.put, sA, s0, s1]
 refine sy 12 23 rfl rfl ?_; try simp only [Act.put, sA, s0, s1]
 refine sy 13 24 rfl rfl ?_; try simp only [Act.put, sA, s0, s1]
 refine sy 14 25 rfl rfl ?_; try simp only [Act.put, sA, s0, s1]
 refine sy 15 26 rfl rfl ?_; try simp only [Act.put, sA, s0, s1]
 refine sy 16 27 rfl rfl ?_; try simp only [Act.put, sA, s0, s1]
 refine sy 17 28 rfl rfl ?_; try simp only [Act.put, sA, s0, s1]
 refine sy 18 29 rfl rfl ?_; try simp only [Act.put, sA, s0, s1]
 refine sy 19 30 rfl rfl ?_; try simp only [Act.put, sA, s0, s1]
 refine sy 20 31 rfl rfl ?_; try simp only [Act.put, sA, s0, s1]
 refine sy 21 32 rfl rfl ?_ (hy := by (intro w hSw; (try dsimp only at hSw); have hq := H0.out _ hSw; go_simp; try with_reducible rfl))
 try simp only [Act.put, sA, s0, s1]
 refine sy 22 33 rfl rfl ?_; try simp only [Act.put, sA, s0, s1]
 refine sy 23 34 rfl rfl ?_; try simp only [Act.put, sA, s0, s1]
 refine sy 24 35 rfl rfl ?_; try simp only [Act.put, sA, s0, s1]
 refine sy 25 36 rfl rfl ?_ (hy := by (intro w hSw; (try dsimp only at hSw); have hq := H1.out _ hSw; go_simp; try with_reducible rfl))
 try simp only [Act.put, sA, s0, s1]
 refine sy 26 37 rfl rfl ?_; try simp only [Act.put, sA, s0, s1]
 refine sy 27 38 rfl rfl ?_; try simp only [Act.put, sA, s0, s1]
 refine sy 28 39 rfl rfl ?_; try simp only [Act.put, sA, s0, s1]
 refine wpAnyH_done (by kernel_rfl) ?_ _; clear l0 l1 l2 l3 m0 m1 m2 m3 p1' p4' H0 H1; clear hHeld SCA SCB; go_wp2
 go_loopw [6, 7] (fun v6 v7 wr => ∃ (k : Nat) (A1 : Option Addr) (d1 : Nat) (zs : List EvT) (cs : List EvP), k ≤ ys.length ∧ v7 = .int .i64 k ∧ v6 = .slice A1 zs.length d1 ∧ Hid (cs = (fs.take k).foldl putE es) ∧ Hid (RdK evTy wr A1 zs.length zs) ∧ Hid (EvsR wr zs cs) ∧ Hid (Chg [] w wr)) (fun _ v7 _ => ys.length - (RowKit.intOf v7).toNat)
 case atStart => exact ⟨0, (some ⟨g3, o3, none⟩), c, xs, es, Nat.zero_le _, rfl, rfl, Lib.hid rfl, Lib.hid (HA.out.chg C9.out (by simp)), Lib.hid (HX.out.chg C9.out), C9⟩
 case round =>
  clear C9
  obtain ⟨k, A1, d1, zs, cs, hk, rfl, rfl, CS, RR, RE, PC⟩ := hrel
  have j0 : (0 : Int) ≤ (k : Int) := by omega
  by_cases hlt : k < ys.length
  ·
   have j1 : (k : Int) < (ys.length : Int) := by omega
   have j3 : IntKind.i64.wrap ((k : Int) + 1) = (k : Int) + 1 := IntWalk.i64_in _ (by have := HN.out; omega)
   obtain ⟨g5, o5, eB, _⟩ := HB.out.line (by omega)
   cases eB
   obtain ⟨x, e, ex, ee, rx⟩ := HY.out.at_ hlt
   obtain ⟨z0, z1, z2, z3, z4, z5, z6⟩ := evCells (HB.out.chg PC.out (by simp)) ex
   have EE := Lib.hid ee
   have EM := Lib.hid (List.mem_of_getElem? ee)
   have OKC : Hid (ShOk cs) := Lib.hid (by
    rw [CS.out]
    exact puts_ok (fs.take k) es SA.out (fun y hy => SB.out.1 y (List.mem_of_mem_take hy)) (fun u hu v hv => OP.out u hu v (List.mem_of_mem_take hv)) (fun u hu v hv => SB.out.2.1 u (List.mem_of_mem_take hu) v (List.mem_of_mem_take hv)))
   have CMEM : Hid (∀ f ∈ cs, EvSm f) := Lib.hid (fun f hf => by
    rw [CS.out] at hf
    rcases puts_mem hf with q | q
    ·
     exact HS.out f q
    ·
     exact HT.out f (List.mem_of_mem_take q))
   have ZL : Hid (zs.length ≤ 1000) := Lib.hid (by
    have a := RE.out.1
    have b := puts_len (fs.take k) es
    rw [← CS.out, List.length_take] at b
    have := HN.out
    have := HX.out.1
    omega)
   have CALL := Lib.hid (ksput_any wr A1 d1 zs cs x e RR.out RE.out ZL.out CMEM.out (rx.chg PC.out) (HT.out e EM.out) OKC.out.2.2.1)
   clear ex ee rx; skip; go_wp2_with fail; clear z0 z1 z2 z3 z4 z5 z6
   refine CALL.out.mono ?_
   rintro r w7 ⟨A7, c7, us, rfl, hl, hu, hrd, hc⟩
   replace PC := Lib.hid (PC.out.trans hc)
   have R7 := Lib.hid hrd
   have E7 := Lib.hid (hu.chg hc)
   have CS1 : Hid (putE cs e = (fs.take (k + 1)).foldl putE es) := Lib.hid (by
    rw [List.take_add_one, EE.out]
    simp only [Option.toList, List.foldl_append, List.foldl_cons, List.foldl_nil]
    rw [← CS.out])
   clear hl hu hrd hc CALL RR RE; go_wp2; go_round
   case rel => exact ⟨k + 1, A7, c7, us, putE cs e, by omega, by go_num, rfl, CS1, R7, E7, PC⟩
   case measure => simp [RowKit.intOf]; omega
  ·
   obtain rfl : k = ys.length := by omega
   have j1 : ¬ (ys.length : Int) < (ys.length : Int) := by omega
   have CF : Hid (cs = fs.foldl putE es) := Lib.hid (by rw [CS.out, HY.out.1, List.take_length])
   have CQ : Hid (∀ f ∈ cs, f.b.length ≤ 140737488351232 ∧ f.q.length ≤ 100000) := Lib.hid (fun f hf => by
    rw [CF.out] at hf
    rcases puts_mem hf with q | q
    ·
     exact ⟨(HS.out f q).2.1, (HQ.out f q).2⟩
    ·
     exact ⟨(HT.out f q).2.1, (HR.out f q).2⟩)
   have ZL : Hid (zs.length ≤ 1000) := Lib.hid (by
    have a := RE.out.1
    have b := puts_len fs es
    rw [← CF.out] at b
    have := HN.out
    have := HX.out.1
    have := HY.out.1
    omega)
   clear CS hlt hk; go_wp2
   generalize wr = wl at *
   clear wr
   go_loopw [8, 9] (fun o i wq => ∃ (k : Nat) (A2 : Option Addr) (d2 : Nat) (us : List EvT), k ≤ zs.length ∧ us.length = k ∧ i = .int .i64 k ∧ o = .slice A2 us.length d2 ∧ Hid (OwnK evTy wq A2 d2 us) ∧ Hid (EvsR wq us (cs.take k)) ∧ Hid (ApartE wq A2 us) ∧ Hid (∀ a, A2 = some a → wl.heap.size ≤ a.block) ∧ Hid (Chg [] wl wq)) (fun _ i _ => zs.length - (RowKit.intOf i).toNat)
   case atStart => exact ⟨0, none, 0, [], Nat.zero_le _, rfl, rfl, rfl, OwnK.none_ _, Lib.hid (by simpa using EvsR.nil _), Lib.hid (fun x hx => by simp at hx), Lib.hid (by simp), Chg.refl _ _⟩
   case round =>
    obtain ⟨k, A2, d2, us, hk, hyl, rfl, rfl, RO, RU, RA, RN, RC⟩ := hrel
    have i0 : (0 : Int) ≤ (k : Int) := by omega
    by_cases hlt : k < zs.length
    ·
     have i1 : (k : Int) < (zs.length : Int) := by omega
     have i3 : IntKind.i64.wrap ((k : Int) + 1) = (k : Int) + 1 := IntWalk.i64_in _ (by have := ZL.out; omega)
     obtain ⟨g, o, eA, _⟩ := RR.out.line (by omega)
     subst eA
     obtain ⟨x, e, ex, ee, rx⟩ := RE.out.at_ hlt
     obtain ⟨z0, z1, z2, z3, z4, z5, z6⟩ := evCells (RR.out.chg RC.out (by simp)) ex
     have RX := Lib.hid rx
     have ET : Hid (cs.take (k + 1) = cs.take k ++ [e]) := Lib.hid (by rw [List.take_add_one, ee]; rfl)
     have EQ := Lib.hid (CQ.out e (List.mem_of_getElem? ee))
     have YL := Lib.hid hyl
     clear ex ee rx hyl; go_wp2_with fail; clear z0 z1 z2 z3 z4 z5 z6
     refine (ksown_any _ x e (RX.out.chg RC.out) EQ.out).mono ?_
     rintro r w2 ⟨A', c', B', d', rfl, hR, hA, hB, hnA, hnB, hne, hc⟩
     obtain ⟨X, hX⟩ : ∃ X : EvT, X = ⟨x.n, x.s, x.p, x.k, x.m, A', x.l, c', B', x.bl, d'⟩ := ⟨_, rfl⟩
     rw [← hX] at hR
     have fX : X.A = A' ∧ X.B = B' := by rw [hX]; exact ⟨rfl, rfl⟩
     have KA : Hid (∀ a, X.A = some a → a.block < w2.heap.size ∧ wr.heap.size ≤ a.block) := Lib.hid (fun a ha => by rw [fX.1] at ha; exact ⟨hA.lt a ha, hnA a ha⟩)
     have KB : Hid (∀ a, X.B = some a → a.block < w2.heap.size ∧ wr.heap.size ≤ a.block) := Lib.hid (fun a ha => by rw [fX.2] at ha; exact ⟨hB.lt a ha, hnB a ha⟩)
     have KC : Hid (X.bl ≤ X.bc ∧ X.bc ≤ maxLen) := Lib.hid (by have q := hB.cap; rw [hX]; show x.bl ≤ d' ∧ d' ≤ maxLen; have := RX.out.bl; exact ⟨by omega, q.2⟩)
     have LA1 := Lib.hid RO.out.lt
     have XR := Lib.hid hR
     replace RO := Lib.hid (RO.out.chg hc (by simp))
     replace RU := Lib.hid (RU.out.chg hc)
     have S2 := Lib.hid hc.size
     replace RC := Lib.hid (RC.out.trans hc)
     have EX : Hid (Value.agg #[.int .i64 x.n, .int .i64 x.s, .string x.p, .int .i64 x.k, .int .i64 x.m, .slice A' x.l c', .slice B' x.bl d'] = .agg #[.int .i64 X.n, .int .i64 X.s, .string X.p, .int .i64 X.k, .int .i64 X.m, .slice X.A X.l X.c, .slice X.B X.bl X.bc]) := Lib.hid (by rw [hX])
     rw [EX.out]
     clear hR hA hB hnA hnB hne hc hX fX EX
     obtain ⟨w3, hw, hc, b0, b3⟩ := news2 w2 (.cells #[.int .i64 X.n, .int .i64 X.s, .string X.p, .int .i64 X.k, .int .i64 X.m, .slice X.A X.l X.c, .slice X.B X.bl X.bc] 30) (.cells #[.int .i64 X.n, .int .i64 X.s, .string X.p, .int .i64 X.k, .int .i64 X.m, .slice X.A X.l X.c, .slice X.B X.bl X.bc] 30)
     have W3 := Lib.hid hw
     obtain ⟨v3, hv3⟩ : ∃ v3, w2.alloc (.cells #[.int .i64 X.n, .int .i64 X.s, .string X.p, .int .i64 X.k, .int .i64 X.m, .slice X.A X.l X.c, .slice X.B X.bl X.bc] 30) = v3 := ⟨_, rfl⟩
     have V3 := Lib.hid hv3
     have R3 := Lib.hid (rd_oneEc b3)
     replace RO := Lib.hid (RO.out.chg hc (by simp))
     replace RU := Lib.hid (RU.out.chg hc)
     replace XR := Lib.hid (XR.out.chg hc)
     have S3 := Lib.hid hc.size
     replace RC := Lib.hid (RC.out.trans hc)
     clear hw hc b3 hv3
     have N4 : Hid ((us.length + 1) * 400 ≤ 140737488355327) := Lib.hid (by have := YL.out; have := ZL.out; omega)
     go_wp2_with (at_builtin; rw [← W3.out]; refine wpList_appK (R := evTy) rfl (.tmp 64) (.tmp 66) rfl rfl (A := A2) (n := us.length) (m := 1) (c := d2) (d := 1) (xs := us) (ys := [X]) RO.out rfl rfl R3.out N4.out ?_; intro A7 c7 w7 o7 g7 e7; have O7 := Lib.hid o7; have F7 := Lib.hid (fresh_appE RN.out RC.out g7 e7); have G7 := Lib.hid g7; have E7 := Lib.hid e7; clear o7 g7 e7)
     have CG : Hid (Chg (blkOf A2) w3 w7) := Lib.hid ((Chg.refl (blkOf A2) w3).grown G7.out (fun i hi => by
      cases A2 with
      | none => simp at hi
      | some a => simp at hi; subst hi; exact .inl (mem_blkOf rfl)))
     have RE7 : Hid (EvsR w7 (us ++ [X]) (cs.take (k + 1))) := Lib.hid (by
      rw [ET.out]
      refine EvsR.snoc (RU.out.chgS CG.out (fun y hy => ⟨fun a ha q => ?_, fun a ha q => ?_⟩)) (XR.out.chgS CG.out (fun a ha q => ?_) (fun a ha q => ?_))
      ·
       obtain ⟨b, hb, e⟩ := of_blkOf q; exact ((RA.out y hy).1 a ha).2 b hb e.symm
      ·
       obtain ⟨b, hb, e⟩ := of_blkOf q; exact ((RA.out y hy).2.1 a ha).2 b hb e.symm
      ·
       obtain ⟨b, hb, e⟩ := of_blkOf q; have := LA1.out b hb; have := (KA.out a ha).2; omega
      ·
       obtain ⟨b, hb, e⟩ := of_blkOf q; have := LA1.out b hb; have := (KB.out a ha).2; omega)
     have RA7 : Hid (ApartE w7 A7 (us ++ [X])) := Lib.hid (fun y hy => by
      have s7 := CG.out.size
      have s3 := S3.out
      have s2 := S2.out
      have lo : ∀ a : Addr, a.block < w3.heap.size → (∀ b, A2 = some b → a.block ≠ b.block) → a.block < w7.heap.size ∧ ∀ b, A7 = some b → a.block ≠ b.block := fun a h1 h2 => ⟨by omega, fun b hb => by
       rcases E7.out with q | q
       ·
        rw [q] at hb; exact h2 b hb
       ·
        rw [q] at hb; cases hb; exact Nat.ne_of_lt h1⟩
      rcases List.mem_append.1 hy with r | r
      ·
       exact ⟨fun a ha => lo a (by have := ((RA.out y r).1 a ha).1; omega) ((RA.out y r).1 a ha).2, fun a ha => lo a (by have := ((RA.out y r).2.1 a ha).1; omega) ((RA.out y r).2.1 a ha).2, (RA.out y r).2.2⟩
      ·
       simp at r
       subst r
       exact ⟨fun a ha => lo a (by have := (KA.out a ha).1; omega) (fun b hb => by have := LA1.out b hb; have := (KA.out a ha).2; omega), fun a ha => lo a (by have := (KB.out a ha).1; omega) (fun b hb => by have := LA1.out b hb; have := (KB.out a ha).2; omega), KC.out⟩)
     clear CG G7 E7 RO RU RA; go_wp2; go_round
     case rel => exact ⟨k + 1, A7, c7, us ++ [X], by omega, by simp [YL.out], by go_num, by simp, O7, RE7, RA7, Lib.hid F7.out.1, F7.out.2⟩
     case measure => simp [RowKit.intOf]; omega
    ·
     obtain rfl : k = zs.length := by omega
     have i1 : ¬ (zs.length : Int) < (zs.length : Int) := by omega
     have ET : cs.take zs.length = cs := by rw [RE.out.1]; exact List.take_length
     rw [ET] at RU
     have YL := Lib.hid hyl
     clear hyl ET; go_wp2; go_ret2
     rw [YES.out, ← CF.out]
     exact ⟨A2, d2, us, rfl, RO.out.reads, RU.out, PC.out.trans RC.out⟩
end
section
open Go.RowKit Go.Lib


set_option maxRecDepth 100000 in
set_option maxHeartbeats 8000000 in
theorem ksputs_any (w : World) (A : Option Addr) (c : Nat) (xs : List EvT) (es : List EvP) (y : EvT) (f : EvP) (h : RdK evTy w A xs.length xs) (hx : EvsR w xs es) (hn : xs.length ≤ 900) (hs : ∀ e ∈ es, EvSm e ∧ e.q.length ≤ 100000) (hy : EvR w y f) (ht : EvSm f ∧ f.q.length ≤ 100000) :
  Calls Tryz.prog 50 #[.slice A xs.length c, .agg #[.int .i64 y.n, .int .i64 y.s, .string y.p, .int .i64 y.k, .int .i64 y.m, .slice y.A y.l y.c, .slice y.B y.bl y.bc]] w fun r w' => ∃ (A' : Option Addr) (c' : Nat) (zs : List EvT), r = .returned (.tuple #[.slice A' zs.length c', .int .i64 (shJoinE es [f]).1]) ∧ RdK evTy w' A' zs.length zs ∧ EvsR w' zs (shJoinE es [f]).2 ∧ Chg [] w w' := by
 obtain ⟨w2, hw, hc, b0, b1⟩ := news2 w (.cells #[.int .i64 y.n, .int .i64 y.s, .string y.p, .int .i64 y.k, .int .i64 y.m, .slice y.A y.l y.c, .slice y.B y.bl y.bc] 30) (.cells #[.int .i64 y.n, .int .i64 y.s, .string y.p, .int .i64 y.k, .int .i64 y.m, .slice y.A y.l y.c, .slice y.B y.bl y.bc] 30)
 have W2 := Lib.hid hw
 have C := Lib.hid hc
 obtain ⟨s1, hs1⟩ : ∃ s1, w.heap.size + 1 = s1 := ⟨_, rfl⟩
 rw [hs1] at b1
 have S1 := Lib.hid hs1
 have JJ := Lib.hid (ksjoin_any w2 A (some ⟨s1, 0, none⟩) c 1 xs [y] es [f] (h.chg hc (by simp)) (rd_oneEc b1) (hx.chg hc) (by simpa using (EvsR.nil w2).snoc (hy.chg hc)) (by simp; omega) hs (fun e he => by rw [List.mem_singleton.1 he]; exact ht))
 clear hw hc b0 b1 h hx hn hs hy ht hs1
 go_enter Tryz.func50, Tryz.ntmps50
 go_wp2_with (rw [← W2.out, S1.out])
 refine JJ.out.mono ?_
 rintro r w3 ⟨A3, c3, zs, rfl, hr, he, hc⟩
 have P := Lib.hid (And.intro hr (And.intro he (C.out.trans hc)))
 clear hr he hc JJ; go_wp2; go_ret2
 exact ⟨A3, c3, zs, rfl, P.out.1, P.out.2.1, P.out.2.2⟩
end
end Go.Proofs.YtomgjogkkoigbaaGreatDoor
