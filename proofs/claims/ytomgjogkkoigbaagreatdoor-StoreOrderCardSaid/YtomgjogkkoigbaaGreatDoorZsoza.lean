/- StoreOrder. Rows of events as arguments. Nothing is asked of the variables. -/
import Derived.Test.YtomgjogkkoigbaaGreatDoorZsox
import Derived.Test.YtomgjogkkoigbaaGreatDoorZsoz
import Derived.Test.YtomgjogkkoigbaaGreatDoorZsoq
import Derived.Test.YtomgjogkkoigbaaGreatDoorZsod
import Derived.Test.YtomgjogkkoigbaaGreatDoorZsoi
import Derived.Deep.Cut
import Derived.Deep.RegionHeld3
import Derived.Test.YtomgjogkkoigbaaGreatDoorLaid0
set_option linter.unusedSimpArgs false
set_option linter.unusedVariables false
namespace Go.Proofs.YtomgjogkkoigbaaGreatDoor
section
open Go.RowKit Go.Lib


def dotB (e y : EvP) : Bool := decide (y.n = e.n ∧ y.s = e.s)
def folB (e f : EvP) : Bool := decide (f.p = e.p) && aheadP e f
theorem st_stands {U : List EvP} (hU : closedE U = true) {e : EvP} (he : e ∈ U) : (U.foldl putS []).any (dotB e) = !U.any (folB e) := by
 have S := puts_store hU (T := U) (fun x hx => hx)
 rw [Bool.eq_iff_iff, Bool.not_eq_true', List.any_eq_true, List.any_eq_false]
 constructor
 ·
  rintro ⟨y, hy, q⟩ f hf r
  unfold dotB at q
  have d := of_decide_eq_true q
  have ey : y = e := cl_dot hU (stOf_sub S y hy) he d.1 d.2
  subst ey
  have t := (stOf_mem S y).1 hy
  unfold folB at r
  rw [Bool.and_eq_true] at r
  have a := t.2 f (mem_atS.2 ⟨hf, of_decide_eq_true r.1⟩)
  rw [a] at r
  exact absurd r.2 (by decide)
 ·
  intro h
  refine ⟨e, (stOf_mem S e).2 ⟨mem_atS.2 ⟨he, rfl⟩, fun y hy => ?_⟩, by unfold dotB; exact decide_eq_true ⟨rfl, rfl⟩⟩
  have m := mem_atS.1 hy
  rcases c : aheadP e y with _ | _
  ·
   rfl
  ·
   exact absurd (show folB e y = true by unfold folB; rw [decide_eq_true m.2, c]; rfl) (h y m.1)

set_option maxRecDepth 100000 in
set_option maxHeartbeats 32000000 in
theorem storeorder_yes (w : World) (A : Option Addr) (n c : Nat) (xs : List EvT) (es : List EvP) (hb : RdK evTy w A n xs) (hr : EvsR w xs es) (hn : n * 96 ≤ 140737488351232) (hm : n ≤ c) (hz : ∀ (i : Nat) (x : EvT) (e : EvP), xs[i]? = some x → es[i]? = some e → EvZ x e) (B : Option Addr) (nb cb0 : Nat) (bs : List Int) (hbs : Is w B nb bs) (hnb : nb * 8 ≤ 140737488351232) :
  Calls Tryz.prog 5 #[.slice A n c, .slice B nb cb0] w fun r w' => r = .returned (.bool true) ∧ Chg [] w w' := by

 have hl := hb.len
 subst hl
 have HFT := Lib.hid (fit_args hr hz)
 have HL0 : Hid (xs.length ≤ 140737488351232) := Lib.hid (by omega)
 have XL : Hid (∀ x ∈ xs, x.l ≤ 140737488351232) := Lib.hid (fun x hx => by
  obtain ⟨i, hi⟩ := List.getElem?_of_mem hx
  obtain ⟨x2, e, ex, ee, rx⟩ := hr.at_ (show i < xs.length from (List.getElem?_eq_some_iff.1 hi).1)
  rw [hi] at ex
  cases ex
  have a := rx.l
  have b := (hz i x e hi ee).1
  omega)
 have hlb := hbs.len
 subst hlb
 have HA := Lib.hid hb
 have HR := Lib.hid hr
 have HB := Lib.hid hbs
 have C := Lib.hid (Chg.refl [] w)
 clear hb hr hn hm hz hbs hnb
 go_enter Tryz.func5, Tryz.ntmps5
 go_wp2_with fail
 refine (l10known_run w).mono ?_
 rintro r w0 ⟨rfl, hc⟩
 replace C := Lib.hid (C.out.trans hc)
 clear hc
 go_wp2_with fail
 have lv := longevs_any w0 A c xs 14 (HA.out.chg C.out (by simp)) HL0.out (by omega) XL.out
 rw [show ((14 : Nat) : Int) = 14 from rfl] at lv
 refine lv.mono ?_
 rintro r w1 ⟨rfl, hc⟩
 clear lv
 replace C := Lib.hid (C.out.trans hc)
 clear hc
 rcases hlong : longE xs 14 with _ | _
 rotate_left
 ·
  go_wp2
  go_ret
  first | exact C.out | exact ⟨rfl, C.out⟩
 have sm := smallEvs HR.out hlong
 have SM : Hid (∀ e ∈ es, EvSm e ∧ e.q.length ≤ 100000) := Lib.hid (fun e he => ⟨(sm.1 e he).1, by have := (sm.1 e he).2.1; omega⟩)
 have LN : Hid (xs.length ≤ 14) := Lib.hid sm.2
 clear sm hlong
 by_cases hO : bs.length > 40
 ·
  have O1 : (bs.length : Int) > 40 := by omega
  have O2 : (40 : Int) < (bs.length : Int) := by omega
  have O3 : 40 < bs.length := hO
  have O4 : decide ((bs.length : Int) > 40) = true := decide_eq_true O1
  have O5 : decide ((40 : Int) < (bs.length : Int)) = true := decide_eq_true O2
  have O6 : decide (40 < bs.length) = true := decide_eq_true O3
  go_wp2
  go_ret
  first | exact C.out | exact ⟨rfl, C.out⟩
 have O1 : ¬ (bs.length : Int) > 40 := by omega
 have O2 : ¬ (40 : Int) < (bs.length : Int) := by omega
 have O3 : ¬ 40 < bs.length := hO
 have O4 : decide ((bs.length : Int) > 40) = false := decide_eq_false O1
 have O5 : decide ((40 : Int) < (bs.length : Int)) = false := decide_eq_false O2
 have O6 : decide (40 < bs.length) = false := decide_eq_false O3
 have OL : Hid (bs.length ≤ 40) := Lib.hid (by omega)
 go_wp2_with fail
 refine (evclosed_any w1 A c xs es (HA.out.chg C.out (by simp)) (HR.out.chg C.out) (HFT.out.chg C.out) (by have := LN.out; omega) (fun e he => (SM.out e he).1)).mono ?_
 rintro r w3 ⟨rfl, hc⟩
 replace C := Lib.hid (C.out.trans hc)
 clear hc O1 O2 O3 O4 O5 O6 hO
 rcases hcl : closedE es with _ | _
 ·
  go_wp2
  go_ret
  first | exact C.out | exact ⟨rfl, C.out⟩
 have CL := Lib.hid hcl
 clear hcl
 have RA : Hid (RdK evTy w3 A xs.length xs ∧ EvsR w3 xs es) := Lib.hid ⟨HA.out.chg C.out (by simp), HR.out.chg C.out⟩
 have RB := Lib.hid (HB.out.chg C.out (by simp))
 have ID : Hid (∀ x ∈ es, x ∈ es) := Lib.hid (fun x hx => hx)
 go_wp2_with fail
 refine (l10puts_any w3 es A none c 0 0 xs es [] RA.out.1 RA.out.2 ⟨rfl, by simp⟩ (by have := LN.out; have := OL.out; omega) SM.out CL.out ID.out).mono ?_
 rintro r x1 ⟨A1, c1, z1, rfl, he, hc⟩
 replace C := Lib.hid (C.out.trans hc)
 replace RA := Lib.hid (And.intro (RA.out.1.chg hc (by simp)) (RA.out.2.chg hc))
 replace RB := Lib.hid (RB.out.chg hc (by simp))
 have R1 : Hid (RdK evTy x1 A1 z1.length z1 ∧ EvsR x1 z1 (es.foldl putS [])) := Lib.hid ⟨he.row.reads, he.all.ev⟩
 have P1 := Lib.hid he.row.cap
 have F1 : Hid (∀ a, A1 = some a → a.block < x1.heap.size) := Lib.hid (fun a ha => (he.rowAt a ha).2)
 clear hc he
 go_wp2_with fail
 refine (l10puts_any x1 es A B c cb0 bs.length xs es bs RA.out.1 RA.out.2 RB.out (by have := LN.out; have := OL.out; omega) SM.out CL.out ID.out).mono ?_
 rintro r x2 ⟨A2, c2, z2, rfl, he, hc⟩
 replace C := Lib.hid (C.out.trans hc)
 replace RA := Lib.hid (And.intro (RA.out.1.chg hc (by simp)) (RA.out.2.chg hc))
 replace RB := Lib.hid (RB.out.chg hc (by simp))
 replace R1 := Lib.hid (And.intro (R1.out.1.chg hc (by simp)) (R1.out.2.chg hc))
 replace F1 := Lib.hid (fun a ha => Nat.lt_of_lt_of_le (F1.out a ha) hc.size)
 have R2 : Hid (RdK evTy x2 A2 z2.length z2 ∧ EvsR x2 z2 (es.foldl putS [])) := Lib.hid ⟨he.row.reads, he.all.ev⟩
 have P2 := Lib.hid he.row.cap
 have F2 : Hid (∀ a, A2 = some a → a.block < x2.heap.size) := Lib.hid (fun a ha => (he.rowAt a ha).2)
 clear hc he
 have Z1 : Hid (z1.length ≤ 14 ∧ z2.length ≤ 14 ∧ ∀ e ∈ (es.foldl putS []), EvSm e ∧ e.q.length ≤ 100000) := Lib.hid ⟨by have a := R1.out.2.1; have b := foldS_len es []; have d := RA.out.2.1; have := LN.out; simp at b; omega, by have a := R2.out.2.1; have b := foldS_len es []; have d := RA.out.2.1; have := LN.out; simp at b; omega, fun e he => (foldS_in es [] e he).elim (fun q => by cases q) (SM.out e)⟩
 have SQ : Hid (∀ e ∈ (es.foldl putS []), e.q.length ≤ 140737488351232) := Lib.hid (fun e he => by have := (Z1.out.2.2 e he).2; omega)
 have CK := stcheck_any x2 A1 c1 z1 (es.foldl putS []) R1.out.1 P1.out.1 (.inr F1.out) R1.out.2 (by have := Z1.out.1; omega) (fun e he => (Z1.out.2.2 e he).1)
 rw [stE_zero.2 (stOf_ok CL.out ID.out (puts_store CL.out ID.out))] at CK
 have CK2 := Lib.hid CK
 clear CK
 go_wp2_with fail
 refine CK2.out.mono ?_
 rintro r x3 ⟨rfl, hc⟩
 clear CK2
 replace C := Lib.hid (C.out.trans hc)
 replace RA := Lib.hid (And.intro (RA.out.1.chg hc (by simp)) (RA.out.2.chg hc))
 replace RB := Lib.hid (RB.out.chg hc (by simp))
 replace R1 := Lib.hid (And.intro (R1.out.1.chg hc (by simp)) (R1.out.2.chg hc))
 replace F1 := Lib.hid (fun a ha => Nat.lt_of_lt_of_le (F1.out a ha) hc.size)
 replace R2 := Lib.hid (And.intro (R2.out.1.chg hc (by simp)) (R2.out.2.chg hc))
 replace F2 := Lib.hid (fun a ha => Nat.lt_of_lt_of_le (F2.out a ha) hc.size)
 clear hc
 go_wp2_with fail
 refine (sameevs_any x3 A1 A2 c1 c2 z1 z2 (es.foldl putS []) (es.foldl putS []) R1.out.1 R2.out.1 R1.out.2 R2.out.2 ⟨by have := Z1.out.1; omega, by have := Z1.out.2.1; omega⟩ ⟨SQ.out, SQ.out⟩).mono ?_
 rintro r x4 ⟨rfl, hc⟩
 rw [sameL_refl]
 replace C := Lib.hid (C.out.trans hc)
 replace RA := Lib.hid (And.intro (RA.out.1.chg hc (by simp)) (RA.out.2.chg hc))
 replace RB := Lib.hid (RB.out.chg hc (by simp))
 replace R1 := Lib.hid (And.intro (R1.out.1.chg hc (by simp)) (R1.out.2.chg hc))
 replace F1 := Lib.hid (fun a ha => Nat.lt_of_lt_of_le (F1.out a ha) hc.size)
 replace R2 := Lib.hid (And.intro (R2.out.1.chg hc (by simp)) (R2.out.2.chg hc))
 replace F2 := Lib.hid (fun a ha => Nat.lt_of_lt_of_le (F2.out a ha) hc.size)
 clear hc R2 F2 P2 F1 P1 RB
 have C4 := C
 clear C
 obtain ⟨T, hT⟩ : ∃ T, es.foldl putS [] = T := ⟨_, rfl⟩
 have STD : Hid (∀ e ∈ es, T.any (dotB e) = !es.any (folB e)) := Lib.hid (fun e he => by rw [← hT]; exact st_stands CL.out he)
 rw [hT] at R1
 clear hT
 go_wp2
 go_loopw [10, 11, 12, 13, 14] (fun v10 v11 v12 v13 v14 wr => ∃ (i : Nat), i ≤ xs.length ∧ v10 = .int .i64 (i : Int) ∧ Hid (Chg [] x4 wr)) (fun v10 _ _ _ _ _ => xs.length - (RowKit.intOf v10).toNat)
 case atStart => exact ⟨0, Nat.zero_le _, rfl, Chg.refl _ _⟩
 case round =>
  obtain ⟨i, hi, rfl, PC⟩ := hrel
  generalize wr = wo at *
  clear wr
  have i0 : (0 : Int) ≤ (i : Int) := by omega
  by_cases hlt : i < xs.length
  ·
   have i1 : (i : Int) < (xs.length : Int) := by omega
   have i3 : IntKind.i64.wrap ((i : Int) + 1) = (i : Int) + 1 := IntWalk.i64_in _ (by have := LN.out; omega)
   obtain ⟨g3, o3, eA, _⟩ := RA.out.1.line (by omega)
   have EA := Lib.hid eA
   obtain ⟨x, e, ex, ee, rx⟩ := RA.out.2.at_ hlt
   have EX := Lib.hid ex
   have RX := Lib.hid rx
   have EM := Lib.hid (List.mem_of_getElem? ee)
   clear ex ee rx
   rw [eA]
   clear eA
   go_wp2
   go_loopw [11, 13] (fun v11 v13 wr => ∃ (k : Nat), k ≤ z1.length ∧ v13 = .int .i64 (k : Int) ∧ v11 = .bool ((T.take k).any (dotB e)) ∧ Hid (Chg [] x4 wr)) (fun _ v13 _ => z1.length - (RowKit.intOf v13).toNat)
   case atStart => exact ⟨0, Nat.zero_le _, rfl, rfl, PC⟩
   case round =>
    obtain ⟨k, hk, rfl, rfl, QC⟩ := hrel
    have k0 : (0 : Int) ≤ (k : Int) := by omega
    by_cases hkl : k < z1.length
    ·
     have k1 : (k : Int) < (z1.length : Int) := by omega
     have k3 : IntKind.i64.wrap ((k : Int) + 1) = (k : Int) + 1 := IntWalk.i64_in _ (by have := Z1.out; omega)
     obtain ⟨g4, o4, eB, _⟩ := R1.out.1.line (by omega)
     have EB4 := Lib.hid eB
     obtain ⟨y, f, ey, ef, ry⟩ := R1.out.2.at_ hkl
     have EY := Lib.hid ey
     have ET : Hid ((T.take (k + 1)).any (dotB e) = ((T.take k).any (dotB e) || dotB e f)) := Lib.hid (by rw [List.take_add_one, ef, List.any_append]; simp)
     have DB : Hid (dotB e f = ((y.n == x.n) && (y.s == x.s))) := Lib.hid (by unfold dotB; rw [ry.n, ry.s, RX.out.n, RX.out.s, Bool.eq_iff_iff]; simp)
     have HC : Hid (∀ w', Chg [] wr w' → _ ∧ _) := Lib.hid (fun w' hc => And.intro (evCells ((EA.out ▸ RA.out.1).chg (QC.out.trans hc) (by simp)) EX.out) (evCells ((EB4.out ▸ R1.out.1).chg (QC.out.trans hc) (by simp)) EY.out))
     clear ey ef ry
     rw [eB]
     clear eB
     rcases hb : (T.take k).any (dotB e) with _ | _
     ·
      skip
      rcases dq : (y.n == x.n) with _ | _
      ·
       skip
       have EB : Hid ((T.take (k + 1)).any (dotB e) = false) := Lib.hid (by rw [ET.out, hb, DB.out, dq]; rfl)
       clear hb
       go_upto_region 15 with fail
       refine wp_region_held_drew (S := fun w' => Chg [] wr w') (by kernel_rfl) (Chg.refl [] wr).drew (fun hHeld => ?_)
       refine sy 0 69 rfl rfl ?_
       try simp only [Act.put, sA, s0, s1]
       refine sy 1 70 rfl rfl ?_
       try simp only [Act.put, sA, s0, s1]
       refine sy 2 71 rfl rfl ?_
       try simp only [Act.put, sA, s0, s1]
       refine sy 3 72 rfl rfl ?_
       try simp only [Act.put, sA, s0, s1]
       refine sy 4 73 rfl rfl ?_
       try simp only [Act.put, sA, s0, s1]
       refine sy 5 74 rfl rfl ?_
       try simp only [Act.put, sA, s0, s1]
       refine sy 6 75 rfl rfl ?_ (hy := by (intro w hSw; (try dsimp only at hSw); have hq := HC.out _ hSw; obtain ⟨⟨q0, q1, q2, q3, q4, q5, q6⟩, p0, p1, p2, p3, p4, p5, p6⟩ := hq; go_simp; try with_reducible rfl))
       try simp only [Act.put, sA, s0, s1]
       refine sy 7 76 rfl rfl ?_
       try simp only [Act.put, sA, s0, s1]
       refine sy 8 77 rfl rfl ?_
       try simp only [Act.put, sA, s0, s1]
       refine sy 9 78 rfl rfl ?_
       try simp only [Act.put, sA, s0, s1]
       refine sy 10 79 rfl rfl ?_
       try simp only [Act.put, sA, s0, s1]
       refine sy 11 80 rfl rfl ?_ (hy := by (intro w hSw; (try dsimp only at hSw); have hq := HC.out _ hSw; obtain ⟨⟨q0, q1, q2, q3, q4, q5, q6⟩, p0, p1, p2, p3, p4, p5, p6⟩ := hq; go_simp; try with_reducible rfl))
       try simp only [Act.put, sA, s0, s1]
       refine sy 12 81 rfl rfl ?_
       try simp only [Act.put, sA, s0, s1]
       refine sy 13 82 rfl rfl ?_
       try simp only [Act.put, sA, s0, s1]
       refine sy 14 11 rfl rfl ?_
       try simp only [Act.put, sA, s0, s1]
       refine wpAnyH_done (by kernel_rfl) ?_ _
       replace QC := Lib.hid (QC.out.trans hHeld)
       clear hHeld HC
       go_wp2
       go_round
       case rel => exact ⟨k + 1, by omega, by go_num, by rw [EB.out], QC⟩
       case measure => simp [RowKit.intOf]; omega
      ·
       skip
       rcases dr : (y.s == x.s) with _ | _
       ·
        skip
        have EB : Hid ((T.take (k + 1)).any (dotB e) = false) := Lib.hid (by rw [ET.out, hb, DB.out, dq, dr]; rfl)
        clear hb
        go_upto_region 15 with fail
        refine wp_region_held_drew (S := fun w' => Chg [] wr w') (by kernel_rfl) (Chg.refl [] wr).drew (fun hHeld => ?_)
        refine sy 0 69 rfl rfl ?_
        try simp only [Act.put, sA, s0, s1]
        refine sy 1 70 rfl rfl ?_
        try simp only [Act.put, sA, s0, s1]
        refine sy 2 71 rfl rfl ?_
        try simp only [Act.put, sA, s0, s1]
        refine sy 3 72 rfl rfl ?_
        try simp only [Act.put, sA, s0, s1]
        refine sy 4 73 rfl rfl ?_
        try simp only [Act.put, sA, s0, s1]
        refine sy 5 74 rfl rfl ?_
        try simp only [Act.put, sA, s0, s1]
        refine sy 6 75 rfl rfl ?_ (hy := by (intro w hSw; (try dsimp only at hSw); have hq := HC.out _ hSw; obtain ⟨⟨q0, q1, q2, q3, q4, q5, q6⟩, p0, p1, p2, p3, p4, p5, p6⟩ := hq; go_simp; try with_reducible rfl))
        try simp only [Act.put, sA, s0, s1]
        refine sy 7 76 rfl rfl ?_
        try simp only [Act.put, sA, s0, s1]
        refine sy 8 77 rfl rfl ?_
        try simp only [Act.put, sA, s0, s1]
        refine sy 9 78 rfl rfl ?_
        try simp only [Act.put, sA, s0, s1]
        refine sy 10 79 rfl rfl ?_
        try simp only [Act.put, sA, s0, s1]
        refine sy 11 80 rfl rfl ?_ (hy := by (intro w hSw; (try dsimp only at hSw); have hq := HC.out _ hSw; obtain ⟨⟨q0, q1, q2, q3, q4, q5, q6⟩, p0, p1, p2, p3, p4, p5, p6⟩ := hq; go_simp; try with_reducible rfl))
        try simp only [Act.put, sA, s0, s1]
        refine sy 12 81 rfl rfl ?_
        try simp only [Act.put, sA, s0, s1]
        refine sy 13 82 rfl rfl ?_
        try simp only [Act.put, sA, s0, s1]
        refine sy 14 11 rfl rfl ?_
        try simp only [Act.put, sA, s0, s1]
        refine wpAnyH_done (by kernel_rfl) ?_ _
        replace QC := Lib.hid (QC.out.trans hHeld)
        clear hHeld HC
        go_wp2
        go_round
        case rel => exact ⟨k + 1, by omega, by go_num, by rw [EB.out], QC⟩
        case measure => simp [RowKit.intOf]; omega
       ·
        skip
        have EB : Hid ((T.take (k + 1)).any (dotB e) = true) := Lib.hid (by rw [ET.out, hb, DB.out, dq, dr]; rfl)
        clear hb
        go_upto_region 15 with fail
        refine wp_region_held_drew (S := fun w' => Chg [] wr w') (by kernel_rfl) (Chg.refl [] wr).drew (fun hHeld => ?_)
        refine sy 0 69 rfl rfl ?_
        try simp only [Act.put, sA, s0, s1]
        refine sy 1 70 rfl rfl ?_
        try simp only [Act.put, sA, s0, s1]
        refine sy 2 71 rfl rfl ?_
        try simp only [Act.put, sA, s0, s1]
        refine sy 3 72 rfl rfl ?_
        try simp only [Act.put, sA, s0, s1]
        refine sy 4 73 rfl rfl ?_
        try simp only [Act.put, sA, s0, s1]
        refine sy 5 74 rfl rfl ?_
        try simp only [Act.put, sA, s0, s1]
        refine sy 6 75 rfl rfl ?_ (hy := by (intro w hSw; (try dsimp only at hSw); have hq := HC.out _ hSw; obtain ⟨⟨q0, q1, q2, q3, q4, q5, q6⟩, p0, p1, p2, p3, p4, p5, p6⟩ := hq; go_simp; try with_reducible rfl))
        try simp only [Act.put, sA, s0, s1]
        refine sy 7 76 rfl rfl ?_
        try simp only [Act.put, sA, s0, s1]
        refine sy 8 77 rfl rfl ?_
        try simp only [Act.put, sA, s0, s1]
        refine sy 9 78 rfl rfl ?_
        try simp only [Act.put, sA, s0, s1]
        refine sy 10 79 rfl rfl ?_
        try simp only [Act.put, sA, s0, s1]
        refine sy 11 80 rfl rfl ?_ (hy := by (intro w hSw; (try dsimp only at hSw); have hq := HC.out _ hSw; obtain ⟨⟨q0, q1, q2, q3, q4, q5, q6⟩, p0, p1, p2, p3, p4, p5, p6⟩ := hq; go_simp; try with_reducible rfl))
        try simp only [Act.put, sA, s0, s1]
        refine sy 12 81 rfl rfl ?_
        try simp only [Act.put, sA, s0, s1]
        refine sy 13 82 rfl rfl ?_
        try simp only [Act.put, sA, s0, s1]
        refine sy 14 11 rfl rfl ?_
        try simp only [Act.put, sA, s0, s1]
        refine wpAnyH_done (by kernel_rfl) ?_ _
        replace QC := Lib.hid (QC.out.trans hHeld)
        clear hHeld HC
        go_wp2
        go_round
        case rel => exact ⟨k + 1, by omega, by go_num, by rw [EB.out], QC⟩
        case measure => simp [RowKit.intOf]; omega
     ·
      skip
      have EB : Hid ((T.take (k + 1)).any (dotB e) = true) := Lib.hid (by rw [ET.out, hb]; rfl)
      clear hb
      go_upto_region 15 with fail
      refine wp_region_held_drew (S := fun w' => Chg [] wr w') (by kernel_rfl) (Chg.refl [] wr).drew (fun hHeld => ?_)
      refine sy 0 69 rfl rfl ?_
      try simp only [Act.put, sA, s0, s1]
      refine sy 1 70 rfl rfl ?_
      try simp only [Act.put, sA, s0, s1]
      refine sn 2 71 rfl rfl ?_
      try simp only [Act.put, sA, s0, s1]
      refine sn 3 72 rfl rfl ?_
      try simp only [Act.put, sA, s0, s1]
      refine sn 4 73 rfl rfl ?_
      try simp only [Act.put, sA, s0, s1]
      refine sn 5 74 rfl rfl ?_
      try simp only [Act.put, sA, s0, s1]
      refine sn 6 75 rfl rfl ?_
      try simp only [Act.put, sA, s0, s1]
      refine sn 7 76 rfl rfl ?_
      try simp only [Act.put, sA, s0, s1]
      refine sn 8 77 rfl rfl ?_
      try simp only [Act.put, sA, s0, s1]
      refine sn 9 78 rfl rfl ?_
      try simp only [Act.put, sA, s0, s1]
      refine sn 10 79 rfl rfl ?_
      try simp only [Act.put, sA, s0, s1]
      refine sn 11 80 rfl rfl ?_
      try simp only [Act.put, sA, s0, s1]
      refine sn 12 81 rfl rfl ?_
      try simp only [Act.put, sA, s0, s1]
      refine sy 13 82 rfl rfl ?_
      try simp only [Act.put, sA, s0, s1]
      refine sy 14 11 rfl rfl ?_
      try simp only [Act.put, sA, s0, s1]
      refine wpAnyH_done (by kernel_rfl) ?_ _
      replace QC := Lib.hid (QC.out.trans hHeld)
      clear hHeld HC
      go_wp2
      go_round
      case rel => exact ⟨k + 1, by omega, by go_num, by rw [EB.out], QC⟩
      case measure => simp [RowKit.intOf]; omega
    ·
     obtain rfl : k = z1.length := by omega
     have k1 : ¬ (z1.length : Int) < (z1.length : Int) := by omega
     have ET : T.take z1.length = T := by rw [R1.out.2.1, List.take_length]
     rw [ET, STD.out e EM.out]
     clear ET
     have PC2 := QC
     clear QC PC
     generalize wr = wq at *
     clear wr
     obtain ⟨bv, hbv⟩ : ∃ b, es.any (folB e) = b := ⟨_, rfl⟩
     have BV := Lib.hid hbv
     rw [hbv]
     clear hbv
     go_wp2
     go_loopw [12, 14] (fun v12 v14 wr => ∃ (k : Nat), k ≤ xs.length ∧ v14 = .int .i64 (k : Int) ∧ v12 = .bool ((es.take k).any (folB e)) ∧ Hid (Chg [] x4 wr)) (fun _ v14 _ => xs.length - (RowKit.intOf v14).toNat)
     case atStart => exact ⟨0, Nat.zero_le _, rfl, rfl, PC2⟩
     case round =>
      obtain ⟨k, hk, rfl, rfl, QC⟩ := hrel
      have k0 : (0 : Int) ≤ (k : Int) := by omega
      by_cases hkl : k < xs.length
      ·
       have k1 : (k : Int) < (xs.length : Int) := by omega
       have k3 : IntKind.i64.wrap ((k : Int) + 1) = (k : Int) + 1 := IntWalk.i64_in _ (by have := LN.out; omega)
       obtain ⟨y, f, ey, ef, ry⟩ := RA.out.2.at_ hkl
       have EY := Lib.hid ey
       have ET : Hid ((es.take (k + 1)).any (folB e) = ((es.take k).any (folB e) || folB e f)) := Lib.hid (by rw [List.take_add_one, ef, List.any_append]; simp)
       have XP : Hid (y.p = strOf f.p ∧ x.p = strOf e.p) := Lib.hid ⟨ry.p, RX.out.p⟩
       have AHD : Hid (∀ w', Chg [] wr w' → Calls Tryz.prog 40 #[.agg #[.int .i64 x.n, .int .i64 x.s, .string x.p, .int .i64 x.k, .int .i64 x.m, .slice x.A x.l x.c, .slice x.B x.bl x.bc], .agg #[.int .i64 y.n, .int .i64 y.s, .string y.p, .int .i64 y.k, .int .i64 y.m, .slice y.A y.l y.c, .slice y.B y.bl y.bc]] w' fun r w2 => r = .returned (.bool (aheadP e f)) ∧ Chg [] w' w2) := Lib.hid (fun w' hc => evahead_any w' x y e f (RX.out.chg (QC.out.trans hc)) (ry.chg (QC.out.trans hc)) (SM.out e EM.out).1 (SM.out f (List.mem_of_getElem? ef)).1)
       have HC : Hid (∀ w', Chg [] wr w' → _ ∧ _) := Lib.hid (fun w' hc => And.intro (evCells ((EA.out ▸ RA.out.1).chg (QC.out.trans hc) (by simp)) EX.out) (evCells ((EA.out ▸ RA.out.1).chg (QC.out.trans hc) (by simp)) EY.out))
       clear ey ef ry
       rcases hb : (es.take k).any (folB e) with _ | _
       ·
        skip
        by_cases hp : f.p = e.p
        rotate_left
        ·
         skip
         have EB : Hid ((es.take (k + 1)).any (folB e) = false) := Lib.hid (by rw [ET.out, hb]; unfold folB; rw [decide_eq_false hp]; rfl)
         have p1' : ((y.p == x.p) : Bool) = false := by rw [XP.out.1, XP.out.2]; exact strOf_ne hp
         have p2' : ¬ y.p = x.p := by rw [XP.out.1, XP.out.2]; exact strOf_ne2 hp
         have p3' : ¬ y.p.toList = x.p.toList := by rw [XP.out.1, XP.out.2]; exact strOf_ne3s hp
         have p4' : ((y.p.toList == x.p.toList) : Bool) = false := by simpa using p3'
         clear hb hp
         go_upto_region 19 with fail
         refine wp_region_held_drew (S := fun w' => Chg [] wr w') (by kernel_rfl) (Chg.refl [] wr).drew (fun hHeld => ?_)
         refine sy 0 89 rfl rfl ?_
         try simp only [Act.put, sA, s0, s1]
         refine sy 1 90 rfl rfl ?_
         try simp only [Act.put, sA, s0, s1]
         refine sy 2 91 rfl rfl ?_
         try simp only [Act.put, sA, s0, s1]
         refine sy 3 92 rfl rfl ?_
         try simp only [Act.put, sA, s0, s1]
         refine sy 4 93 rfl rfl ?_
         try simp only [Act.put, sA, s0, s1]
         refine sy 5 94 rfl rfl ?_
         try simp only [Act.put, sA, s0, s1]
         refine sy 6 95 rfl rfl ?_ (hy := by (intro w hSw; (try dsimp only at hSw); have hq := HC.out _ hSw; obtain ⟨⟨q0, q1, q2, q3, q4, q5, q6⟩, p0, p1, p2, p3, p4, p5, p6⟩ := hq; go_simp; try with_reducible rfl))
         try simp only [Act.put, sA, s0, s1]
         refine sy 7 96 rfl rfl ?_
         try simp only [Act.put, sA, s0, s1]
         refine sy 8 97 rfl rfl ?_
         try simp only [Act.put, sA, s0, s1]
         refine sy 9 98 rfl rfl ?_
         try simp only [Act.put, sA, s0, s1]
         refine sy 10 99 rfl rfl ?_
         try simp only [Act.put, sA, s0, s1]
         refine sy 11 100 rfl rfl ?_ (hy := by (intro w hSw; (try dsimp only at hSw); have hq := HC.out _ hSw; obtain ⟨⟨q0, q1, q2, q3, q4, q5, q6⟩, p0, p1, p2, p3, p4, p5, p6⟩ := hq; go_simp; try with_reducible rfl))
         try simp only [Act.put, sA, s0, s1]
         refine sy 12 101 rfl rfl ?_
         try simp only [Act.put, sA, s0, s1]
         refine sy 13 102 rfl rfl ?_
         try simp only [Act.put, sA, s0, s1]
         refine sn 14 103 rfl rfl ?_
         try simp only [Act.put, sA, s0, s1]
         refine sn 15 104 rfl rfl ?_
         try simp only [Act.put, sA, s0, s1]
         refine sn 16 105 rfl rfl ?_
         try simp only [Act.put, sA, s0, s1]
         refine sn 17 106 rfl rfl ?_
         try simp only [Act.put, sA, s0, s1]
         refine sn 18 107 rfl rfl ?_
         try simp only [Act.put, sA, s0, s1]
         refine sn 19 108 rfl rfl ?_
         try simp only [Act.put, sA, s0, s1]
         refine sn 20 109 rfl rfl ?_
         try simp only [Act.put, sA, s0, s1]
         refine sn 21 110 rfl rfl ?_
         try simp only [Act.put, sA, s0, s1]
         refine sn 22 111 rfl rfl ?_
         try simp only [Act.put, sA, s0, s1]
         refine sy 23 112 rfl rfl ?_
         try simp only [Act.put, sA, s0, s1]
         refine sy 24 113 rfl rfl ?_
         try simp only [Act.put, sA, s0, s1]
         refine sy 25 12 rfl rfl ?_
         try simp only [Act.put, sA, s0, s1]
         refine wpAnyH_done (by kernel_rfl) ?_ _
         replace QC := Lib.hid (QC.out.trans hHeld)
         clear hHeld HC AHD
         go_wp2
         go_round
         case rel => exact ⟨k + 1, by omega, by go_num, by rw [EB.out], QC⟩
         case measure => simp [RowKit.intOf]; omega
        have EB : Hid ((es.take (k + 1)).any (folB e) = aheadP e f) := Lib.hid (by rw [ET.out, hb]; unfold folB; rw [decide_eq_true hp]; rfl)
        have p1' : ((y.p == x.p) : Bool) = true := by rw [XP.out.1, XP.out.2, hp]; show ((e.p.toArray == e.p.toArray) : Bool) = true; simp
        have p4' : ((y.p.toList == x.p.toList) : Bool) = true := by rw [XP.out.1, XP.out.2, hp]; simp
        clear hb hp
        go_upto_region 19 with fail
        refine wp_region_held_drew (S := fun w' => Chg [] wr w') (by kernel_rfl) (Chg.refl [] wr).drew (fun hHeld => ?_)
        refine sy 0 89 rfl rfl ?_
        try simp only [Act.put, sA, s0, s1]
        refine sy 1 90 rfl rfl ?_
        try simp only [Act.put, sA, s0, s1]
        refine sy 2 91 rfl rfl ?_
        try simp only [Act.put, sA, s0, s1]
        refine sy 3 92 rfl rfl ?_
        try simp only [Act.put, sA, s0, s1]
        refine sy 4 93 rfl rfl ?_
        try simp only [Act.put, sA, s0, s1]
        refine sy 5 94 rfl rfl ?_
        try simp only [Act.put, sA, s0, s1]
        refine sy 6 95 rfl rfl ?_ (hy := by (intro w hSw; (try dsimp only at hSw); have hq := HC.out _ hSw; obtain ⟨⟨q0, q1, q2, q3, q4, q5, q6⟩, p0, p1, p2, p3, p4, p5, p6⟩ := hq; go_simp; try with_reducible rfl))
        try simp only [Act.put, sA, s0, s1]
        refine sy 7 96 rfl rfl ?_
        try simp only [Act.put, sA, s0, s1]
        refine sy 8 97 rfl rfl ?_
        try simp only [Act.put, sA, s0, s1]
        refine sy 9 98 rfl rfl ?_
        try simp only [Act.put, sA, s0, s1]
        refine sy 10 99 rfl rfl ?_
        try simp only [Act.put, sA, s0, s1]
        refine sy 11 100 rfl rfl ?_ (hy := by (intro w hSw; (try dsimp only at hSw); have hq := HC.out _ hSw; obtain ⟨⟨q0, q1, q2, q3, q4, q5, q6⟩, p0, p1, p2, p3, p4, p5, p6⟩ := hq; go_simp; try with_reducible rfl))
        try simp only [Act.put, sA, s0, s1]
        refine sy 12 101 rfl rfl ?_
        try simp only [Act.put, sA, s0, s1]
        refine sy 13 102 rfl rfl ?_
        try simp only [Act.put, sA, s0, s1]
        refine sy 14 103 rfl rfl ?_
        try simp only [Act.put, sA, s0, s1]
        refine sy 15 104 rfl rfl ?_
        try simp only [Act.put, sA, s0, s1]
        refine sy 16 105 rfl rfl ?_
        try simp only [Act.put, sA, s0, s1]
        refine sy 17 106 rfl rfl ?_ (hy := by (intro w hSw; (try dsimp only at hSw); have hq := HC.out _ hSw; obtain ⟨⟨q0, q1, q2, q3, q4, q5, q6⟩, p0, p1, p2, p3, p4, p5, p6⟩ := hq; go_simp; try with_reducible rfl))
        try simp only [Act.put, sA, s0, s1]
        refine sy 18 107 rfl rfl ?_
        try simp only [Act.put, sA, s0, s1]
        refine sy 19 108 rfl rfl ?_
        try simp only [Act.put, sA, s0, s1]
        refine sy 20 109 rfl rfl ?_
        try simp only [Act.put, sA, s0, s1]
        refine sy 21 110 rfl rfl ?_ (hy := by (intro w hSw; (try dsimp only at hSw); have hq := HC.out _ hSw; obtain ⟨⟨q0, q1, q2, q3, q4, q5, q6⟩, p0, p1, p2, p3, p4, p5, p6⟩ := hq; go_simp; try with_reducible rfl))
        try simp only [Act.put, sA, s0, s1]
        refine wpAnyH_ready (rs := [22]) (by kernel_rfl) (by simp) ?_
        refine AllReadyH.cons rfl (fun K hK => ?_) AllReadyH.nil
        replace hK := Lib.hid hK
        go_simp
        refine (AHD.out _ hHeld).mono ?_
        rintro r w9 ⟨rfl, hc⟩
        have C9 := Lib.hid (hHeld.trans hc)
        clear hc hHeld
        refine hK.out _ _ C9.out (fun hHeld => ?_)
        clear hK K
        try simp only [Act.put, sA, s0, s1]
        refine sy 23 112 rfl rfl ?_
        try simp only [Act.put, sA, s0, s1]
        refine sy 24 113 rfl rfl ?_
        try simp only [Act.put, sA, s0, s1]
        refine sy 25 12 rfl rfl ?_
        try simp only [Act.put, sA, s0, s1]
        refine wpAnyH_done (by kernel_rfl) ?_ _
        replace QC := Lib.hid (QC.out.trans C9.out)
        clear hHeld HC AHD
        go_wp2
        go_round
        case rel => exact ⟨k + 1, by omega, by go_num, by rw [EB.out], QC⟩
        case measure => simp [RowKit.intOf]; omega
       ·
        skip
        have EB : Hid ((es.take (k + 1)).any (folB e) = true) := Lib.hid (by rw [ET.out, hb]; rfl)
        clear hb
        go_upto_region 19 with fail
        refine wp_region_held_drew (S := fun w' => Chg [] wr w') (by kernel_rfl) (Chg.refl [] wr).drew (fun hHeld => ?_)
        refine sy 0 89 rfl rfl ?_
        try simp only [Act.put, sA, s0, s1]
        refine sy 1 90 rfl rfl ?_
        try simp only [Act.put, sA, s0, s1]
        refine sn 2 91 rfl rfl ?_
        try simp only [Act.put, sA, s0, s1]
        refine sn 3 92 rfl rfl ?_
        try simp only [Act.put, sA, s0, s1]
        refine sn 4 93 rfl rfl ?_
        try simp only [Act.put, sA, s0, s1]
        refine sn 5 94 rfl rfl ?_
        try simp only [Act.put, sA, s0, s1]
        refine sn 6 95 rfl rfl ?_
        try simp only [Act.put, sA, s0, s1]
        refine sn 7 96 rfl rfl ?_
        try simp only [Act.put, sA, s0, s1]
        refine sn 8 97 rfl rfl ?_
        try simp only [Act.put, sA, s0, s1]
        refine sn 9 98 rfl rfl ?_
        try simp only [Act.put, sA, s0, s1]
        refine sn 10 99 rfl rfl ?_
        try simp only [Act.put, sA, s0, s1]
        refine sn 11 100 rfl rfl ?_
        try simp only [Act.put, sA, s0, s1]
        refine sn 12 101 rfl rfl ?_
        try simp only [Act.put, sA, s0, s1]
        refine sn 13 102 rfl rfl ?_
        try simp only [Act.put, sA, s0, s1]
        refine sn 14 103 rfl rfl ?_
        try simp only [Act.put, sA, s0, s1]
        refine sn 15 104 rfl rfl ?_
        try simp only [Act.put, sA, s0, s1]
        refine sn 16 105 rfl rfl ?_
        try simp only [Act.put, sA, s0, s1]
        refine sn 17 106 rfl rfl ?_
        try simp only [Act.put, sA, s0, s1]
        refine sn 18 107 rfl rfl ?_
        try simp only [Act.put, sA, s0, s1]
        refine sn 19 108 rfl rfl ?_
        try simp only [Act.put, sA, s0, s1]
        refine sn 20 109 rfl rfl ?_
        try simp only [Act.put, sA, s0, s1]
        refine sn 21 110 rfl rfl ?_
        try simp only [Act.put, sA, s0, s1]
        refine sn 22 111 rfl rfl ?_
        try simp only [Act.put, sA, s0, s1]
        refine sn 23 112 rfl rfl ?_
        try simp only [Act.put, sA, s0, s1]
        refine sy 24 113 rfl rfl ?_
        try simp only [Act.put, sA, s0, s1]
        refine sy 25 12 rfl rfl ?_
        try simp only [Act.put, sA, s0, s1]
        refine wpAnyH_done (by kernel_rfl) ?_ _
        replace QC := Lib.hid (QC.out.trans hHeld)
        clear hHeld HC AHD
        go_wp2
        go_round
        case rel => exact ⟨k + 1, by omega, by go_num, by rw [EB.out], QC⟩
        case measure => simp [RowKit.intOf]; omega
      ·
       obtain rfl : k = xs.length := by omega
       have k1 : ¬ (xs.length : Int) < (xs.length : Int) := by omega
       have ET : es.take xs.length = es := by rw [RA.out.2.1, List.take_length]
       rw [ET, BV.out]
       clear ET
       cases bv
       ·
        go_wp2
        go_round
        case rel => exact ⟨i + 1, by omega, by go_num, QC⟩
        case measure => simp [RowKit.intOf]; omega
       ·
        go_wp2
        go_round
        case rel => exact ⟨i + 1, by omega, by go_num, QC⟩
        case measure => simp [RowKit.intOf]; omega
  ·
   obtain rfl : i = xs.length := by omega
   have i1 : ¬ (xs.length : Int) < (xs.length : Int) := by omega
   go_wp2
   go_ret
   first | exact ⟨rfl, C4.out.trans PC.out⟩ | exact C4.out.trans PC.out
end
section
open Go.RowKit Go.WideShapes Go.ChangeShapes Go.Deep

section
variable {H : Type} {enc : TypeId × Value → H} {w : World} {base : Nat} {spare : Nat → Bool} {held : Bool}
set_option maxRecDepth 100000 in
set_option maxHeartbeats 1000000 in
theorem open_events {n : Nat} {cs : List Value} {y : DataW H × List MemPlace} (h : DataW.trod enc Tryz.prog w base spare held n 22 cs = some y) (hz : ∀ k ∈ y.1.weights Tryz.prog 22, k ≤ reachBytes) :
  ∃ A m d zs es, cs = [.slice A m d] ∧ RdK evTy w A m zs ∧ EvsR w zs es ∧ m * 96 ≤ 140737488351232 ∧ m ≤ d ∧ ∀ (i : Nat) (x : EvT) (e : EvP), zs[i]? = some x → es[i]? = some e → EvZ x e := by
 rcases open_slice Tryz.underlying22 h with ⟨rfl, _⟩ | ⟨a, len, cap, m, k, D, Pl, rfl, _, hl, hm, hmm, rfl, hi⟩
 ·
  exact ⟨none, 0, 0, [], [], rfl, RdK.nil _ _, EvsR.nil _, by decide, by decide, by simp⟩
 ·
  have hlm : len ≤ m := by rw [hmm]; split <;> omega
  obtain ⟨hw, hwd⟩ := weights_slice Tryz.underlying22 hz
  rw [show Tryz.prog.bytesOf 30 = 96 by kernel_rfl] at hw
  simp [reachBytes] at hw
  have hC : Tryz.prog.cellsOf 30 = 7 := by kernel_rfl
  obtain ⟨l, hll, hat⟩ := list_of (Q := fun i (x : EvT × EvP) => (w.cell? (a.add (i * 7)) = some (.int .i64 x.1.n) ∧ w.cell? (a.add (i * 7 + 1)) = some (.int .i64 x.1.s) ∧ w.cell? (a.add (i * 7 + 2)) = some (.string x.1.p) ∧ w.cell? (a.add (i * 7 + 3)) = some (.int .i64 x.1.k) ∧ w.cell? (a.add (i * 7 + 4)) = some (.int .i64 x.1.m) ∧ w.cell? (a.add (i * 7 + 5)) = some (.slice x.1.A x.1.l x.1.c) ∧ w.cell? (a.add (i * 7 + 6)) = some (.slice x.1.B x.1.bl x.1.bc)) ∧ EvR w x.1 x.2 ∧ EvZ x.1 x.2) len (fun i hilt => by
   obtain ⟨cs', hc, ht⟩ := hi i (by omega)
   rw [hC] at hc
   obtain ⟨_, hcl, hat⟩ := World.cells?_some hc
   obtain ⟨x, e, rfl, hr, hz2⟩ := open_event ht (fun k hk => hwd (D i) (List.mem_map.2 ⟨i, List.mem_range.2 hilt, rfl⟩) k hk)
   have g0 := hat 0 (by simp)
   have g1 := hat 1 (by simp)
   have g2 := hat 2 (by simp)
   have g3 := hat 3 (by simp)
   have g4 := hat 4 (by simp)
   have g5 := hat 5 (by simp)
   have g6 := hat 6 (by simp)
   rw [add_add] at g0 g1 g2 g3 g4 g5 g6
   exact ⟨(x, e), ⟨g0, g1, g2, g3, g4, g5, g6⟩, hr, hz2⟩)
  refine ⟨some a, len, cap, l.map (·.1), l.map (·.2), rfl, ⟨by rw [List.length_map]; exact hll, fun j v hj => ⟨a, rfl, ?_⟩⟩, ⟨by simp, fun i x e hx he => ?_⟩, by omega, hl, fun i x e hx he => ?_⟩
  rotate_left
  ·
   rw [List.getElem?_map, Option.map_eq_some_iff] at hx he
   obtain ⟨p, hp, rfl⟩ := hx
   obtain ⟨q, hq, rfl⟩ := he
   rw [hp] at hq
   cases hq
   exact (hat i _ hp).2.1
  ·
   rw [List.getElem?_map, Option.map_eq_some_iff] at hx he
   obtain ⟨p, hp, rfl⟩ := hx
   obtain ⟨q, hq, rfl⟩ := he
   rw [hp] at hq
   cases hq
   exact (hat i _ hp).2.2
  have hj2 := (List.getElem?_eq_some_iff.1 hj).1
  rw [evTy.flat_len, List.length_map] at hj2
  have hk : evTy.k = 7 := rfl
  rw [hk] at hj2
  have hq : j / 7 < l.length := by omega
  have e := evTy.flat_at (l.map (·.1)) (j / 7) (j % 7) _ (by rw [List.getElem?_map, List.getElem?_eq_getElem hq]; rfl) (Nat.mod_lt _ (by decide))
  rw [hk, Nat.div_add_mod', hj] at e
  obtain ⟨g0, g1, g2, g3, g4, g5, g6⟩ := (hat (j / 7) _ (List.getElem?_eq_getElem hq)).1
  rcases (show j % 7 = 0 ∨ j % 7 = 1 ∨ j % 7 = 2 ∨ j % 7 = 3 ∨ j % 7 = 4 ∨ j % 7 = 5 ∨ j % 7 = 6 by omega) with h0 | h0 | h0 | h0 | h0 | h0 | h0
  ·
   rw [h0] at e
   rw [show j / 7 * 7 = j by omega] at g0
   rw [g0]
   exact e.symm
  ·
   rw [h0] at e
   rw [show j / 7 * 7 + 1 = j by omega] at g1
   rw [g1]
   exact e.symm
  ·
   rw [h0] at e
   rw [show j / 7 * 7 + 2 = j by omega] at g2
   rw [g2]
   exact e.symm
  ·
   rw [h0] at e
   rw [show j / 7 * 7 + 3 = j by omega] at g3
   rw [g3]
   exact e.symm
  ·
   rw [h0] at e
   rw [show j / 7 * 7 + 4 = j by omega] at g4
   rw [g4]
   exact e.symm
  ·
   rw [h0] at e
   rw [show j / 7 * 7 + 5 = j by omega] at g5
   rw [g5]
   exact e.symm
  ·
   rw [h0] at e
   rw [show j / 7 * 7 + 6 = j by omega] at g6
   rw [g6]
   exact e.symm
end
end
section
def TabN (_ : World) : Prop := True
theorem TabN.laid {W : World} (_h : laidMetH Tryz.prog tables W) : TabN W := trivial
end
end Go.Proofs.YtomgjogkkoigbaaGreatDoor
