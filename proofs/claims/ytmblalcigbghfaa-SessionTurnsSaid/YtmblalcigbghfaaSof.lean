/- The law's turn: a packet in the air is handed over, or lost. -/
import Derived.Test.YtmblalcigbghfaaSob
namespace Go.Proofs.Ytmblalcigbghfaa
section
open Go.RowKit Go.Lib
set_option linter.unusedSimpArgs false
set_option linter.unusedVariables false


set_option maxHeartbeats 8000000 in
set_option maxRecDepth 100000 in
theorem hand_3f (w0 w : World) (g a b kk : Nat) (wo : WoT) (hW : WL w0.heap.size w g a b kk wo) (hc0 : Chg [] w0 w) (hK : kk ≤ 400000) (wh : Int) (o : Bool) (Y : Option Addr) (m e : Nat) (hl : wo.air.length ≤ 200) (k : Nat) (hk : (k : Int) = wh % (wo.air.length : Int)) (p : PakT) (hp : wo.air[k]? = some (p, false)) (ht : wo.t0.length ≤ 1000000) (hi : (recvS wo.sa p).inn.length ≤ 1000000) : Calls Try.prog 46 #[.pointer (some ⟨g, 0, none⟩), .agg #[.int .i64 3, .int .i64 wh, .bool o, .slice Y m e]] w fun r w' => r = .returned (.tuple #[]) ∧ WL w0.heap.size w' g a b (kk + 4) { wo with air := wo.air.take k ++ wo.air.drop (k + 1), sa := takeS (recvS wo.sa p), t0 := wo.t0 ++ (recvS wo.sa p).inn } ∧ Chg [] w0 w' := by
 have HT := Lib.hid ht
 have HI := Lib.hid hi
 clear ht hi
 have HP := Lib.hid hp
 have HL := Lib.hid hl
 have HKN := Lib.hid hk
 clear hp hl hk
 obtain ⟨Ar, cr, lr, P0, c0, l0, P1, c1, l1, Q0, d0, m0, Q1, d1, m1, Aa, Da, Ab, Db, F, h⟩ := hW
 have EL := Lib.hid h.pa.1
 have NZ : Hid (0 < lr.length) := Lib.hid (by have := (List.getElem?_eq_some_iff.1 HP.out).1; have := EL.out; omega)
 obtain ⟨w1, hw1, b2, b1⟩ := news1 w (.cells #[.int .i64 3, .int .i64 wh, .bool o, .slice Y m e] 58)
 have W1 := Lib.hid hw1
 have HW := Lib.hid (h.off b2 (by simp))
 have C0 := Lib.hid (hc0.trans b2)
 have BX := Lib.hid b1
 have GX := Lib.hid (show w0.heap.size ≤ w.heap.size ∧ g < w.heap.size ∧ w.heap.size < w1.heap.size from ⟨hc0.size, lt_of_heap h.hg, lt_of_heap b1⟩)
 have LOW := Lib.hid (fun l hl z hz => (h.lo l hl z hz).2)
 have HKK := Lib.hid hK
 have e0 : ((lr.length : Int) == 0) = false := beq_eq_false_iff_ne.2 (by have := NZ.out; omega)
 have y2 := cell_of HW.out.hg 2
 simp only [List.getElem?_toArray, List.getElem?_cons_succ, List.getElem?_cons_zero] at y2
 have x1 := cell_of b1 1
 simp only [List.getElem?_toArray, List.getElem?_cons_succ, List.getElem?_cons_zero] at x1
 clear hw1 b2 b1 h hc0 hK
 go_enter Try.func46, Try.ntmps46
 go_upto_region 1 with fail
 rw [← W1.out]
 generalize hgx : w.heap.size = gx at *
 go_upto_region 2 with fail
 refine wp_region_held_drew (S := fun w' => w'.cell? ⟨g, 2, none⟩ = some (.slice Ar lr.length cr) ∧ w'.cell? ⟨gx, 1, none⟩ = some (.int .i64 wh)) (by kernel_rfl) ⟨y2, x1⟩ (fun hHeld => ?_)
 have CD := Lib.hid (Chg.refl [] w1).drew
 replace HW := Lib.hid (HW.out.off CD.out (by simp))
 replace BX := Lib.hid (CD.out.at_ BX.out (by simp))
 replace C0 := Lib.hid (C0.out.trans CD.out)
 have SZ : Hid (gx < w1.drew.heap.size) := Lib.hid (by have := GX.out; have := CD.out.size; omega)
 have Z0 : w1.drew.cell? ⟨g, 2, none⟩ = some (.slice Ar lr.length cr) := CD.out.cell y2 (by simp)
 have Z1 : w1.drew.cell? ⟨gx, 1, none⟩ = some (.int .i64 wh) := CD.out.cell x1 (by simp)
 clear y2 x1 CD e0
 generalize w1.drew = wd at *
 refine sy 0 13 rfl rfl ?_
 try simp only [Act.put, sA, s0, s1]
 refine sy 1 14 rfl rfl ?_ (hy := by (intro w hSw; (try dsimp only at hSw); (obtain ⟨q1, q2⟩ := hSw); go_simp; try with_reducible rfl))
 try simp only [Act.put, sA, s0, s1]
 refine sy 2 15 rfl rfl ?_
 try simp only [Act.put, sA, s0, s1]
 refine sy 3 16 rfl rfl ?_
 try simp only [Act.put, sA, s0, s1]
 refine sy 4 17 rfl rfl ?_
 try simp only [Act.put, sA, s0, s1]
 refine sy 5 18 rfl rfl ?_ (hy := by (intro w hSw; (try dsimp only at hSw); (obtain ⟨q1, q2⟩ := hSw); go_simp; try with_reducible rfl))
 try simp only [Act.put, sA, s0, s1]
 refine sy 6 19 rfl rfl ?_
 try simp only [Act.put, sA, s0, s1]
 refine wpAnyH_ready (rs := [7]) (by kernel_rfl) (by simp) ?_
 refine AllReadyH.cons rfl (fun K hK => ?_) AllReadyH.nil
 replace hK := Lib.hid hK
 go_simp
 refine (pick_any wd wh (lr.length : Int) (by have := NZ.out; omega) (by have := HL.out; have := EL.out; omega)).mono ?_
 rintro r w2 ⟨rfl, rfl⟩
 refine hK.out _ _ ⟨Z0, Z1⟩ (fun hHeld => ?_)
 clear hK K
 try simp only [Act.put, sA, s0, s1]
 refine sy 8 4 rfl rfl ?_
 try simp only [Act.put, sA, s0, s1]
 refine wpAnyH_done (by kernel_rfl) ?_ _
 have hkk : (wh % (lr.length : Int)) = (k : Int) := by rw [HKN.out, EL.out]
 rw [hkk]
 clear hkk hHeld
 obtain ⟨x, hx⟩ : ∃ x, lr[k]? = some x := ⟨_, List.getElem?_eq_getElem (by have := (List.getElem?_eq_some_iff.1 HP.out).1; have := EL.out; omega)⟩
 have FP := Lib.hid (HW.out.pa.2 k x _ hx HP.out)
 have KL : k < lr.length := (List.getElem?_eq_some_iff.1 hx).1
 obtain ⟨gA, eA⟩ : ∃ gA, Ar = some ⟨gA, 0, none⟩ := by
  rcases HW.out.oa with ⟨_, q, _⟩ | ⟨gA, full, q, _⟩
  ·subst q; simp at KL
  ·exact ⟨gA, q⟩
 subst eA
 have k1 : (k : Int) < (lr.length : Int) := by omega
 have k0 : (0 : Int) ≤ (k : Int) := by omega
 obtain ⟨f1, f2, f3, f4, f5, f6⟩ := flCells HW.out.oa.reads hx
 obtain ⟨⟨x1, x2, x3, x4, xA, xn, xd⟩, xw⟩ := x
 have HXX := Lib.hid hx
 clear hx
 obtain rfl : xw = false := FP.out.2.2.2.2.2.2.2
 dsimp only at f1 f2 f3 f4 f5 f6
 rw [Nat.zero_add] at f1 f2 f3 f4 f5 f6
 go_upto_region 4 with fail
 obtain ⟨w3, hw3, c3, b3⟩ := news1 wd (.cells #[.int .i64 x1, .int .i64 x2, .int .i64 x3, .int .i64 x4, .slice xA xn xd, .bool false] 63)
 have FX := Lib.hid b3
 have GF : Hid (gx < wd.heap.size ∧ wd.heap.size < w3.heap.size) := Lib.hid ⟨SZ.out, lt_of_heap b3⟩
 replace HW := Lib.hid (HW.out.off c3 (by simp))
 replace BX := Lib.hid (c3.at_ BX.out (by simp))
 replace C0 := Lib.hid (C0.out.trans c3)
 have HXY := Lib.hid (show FlP w3 F ((x1, x2, x3, x4, xA, xn, xd), false) (p, false) from HW.out.pa.2 k _ _ HXX.out HP.out)
 have q0 := cell_of BX.out 0
 simp only [List.getElem?_toArray, List.getElem?_cons_succ, List.getElem?_cons_zero] at q0
 rw [← hw3]
 clear hw3 c3 b3 f1 f2 f3 f4 f5 f6 Z0 Z1 k0 k1 FP hHeld SZ
 generalize hgf : wd.heap.size = gf at *
 go_upto_region 5 with fail
 clear q0
 have RL := Lib.hid HW.out.oa.reads
 have CAP := Lib.hid HW.out.oa.cap
 have KL2 := Lib.hid KL
 clear KL
 refine wp_region_held_drew (S := fun _ => True) (by kernel_rfl) trivial (fun hHeld => ?_)
 have CD := Lib.hid (Chg.refl [] w3).drew
 replace HW := Lib.hid (HW.out.off CD.out (by simp))
 replace BX := Lib.hid (CD.out.at_ BX.out (by simp))
 replace FX := Lib.hid (CD.out.at_ FX.out (by simp))
 replace C0 := Lib.hid (C0.out.trans CD.out)
 replace GF : Hid (gx < gf ∧ gf < w3.drew.heap.size) := Lib.hid ⟨GF.out.1, Nat.lt_of_lt_of_le GF.out.2 CD.out.size⟩
 replace HXY := Lib.hid (show FlP w3.drew F _ _ from HW.out.pa.2 k _ _ HXX.out HP.out)
 have R1 : Hid (RdK flTy w3.drew (some ⟨gA, 0, none⟩) k (lr.take k)) := Lib.hid (by have q := (HW.out.oa.reads).part 0 k (by have := KL2.out; omega); simpa using q)
 have R2 : Hid (RdK flTy w3.drew (if cr = k + 1 then some ⟨gA, 0, none⟩ else some ⟨gA, (k + 1) * 6, none⟩) (lr.length - (k + 1)) (lr.drop (k + 1))) := Lib.hid (by
  split
  ·have q1 := CAP.out.1
   have q2 := KL2.out
   have q3 : lr.length - (k + 1) = 0 := by omega
   have q4 : lr.drop (k + 1) = [] := List.drop_of_length_le (by omega)
   rw [q3, q4]
   have q := (HW.out.oa.reads).part 0 0 (by omega)
   simpa using q
  ·have q := (HW.out.oa.reads).part (k + 1) (lr.length - (k + 1)) (by have := KL2.out; omega)
   rw [List.take_of_length_le (by simp), Nat.zero_add] at q
   exact q)
 have k1 : (0 : Int) ≤ (k : Int) + 1 := by omega
 have k0 : (0 : Int) ≤ (k : Int) := by omega
 have kc : (k : Int) ≤ (cr : Int) := by have := CAP.out.1; have := KL2.out; omega
 have kl : (k : Int) + 1 ≤ (lr.length : Int) := by have := KL2.out; omega
 have kw : IntKind.i64.wrap ((k : Int) + 1) = (k : Int) + 1 := IntWalk.i64_in _ (by have := KL2.out; have := HL.out; have := EL.out; omega)
 generalize hAD : (if cr = k + 1 then some ⟨gA, 0, none⟩ else some ⟨gA, (k + 1) * 6, none⟩ : Option Addr) = AD at *
 clear CD RL hHeld
 generalize w3.drew = wf at *
 refine' join5 (F := fun (A5 : Option Addr) (c5 : Nat) (A6 : Option Addr) (c6 : Nat) (w7 : World) => Hid (WP w0.heap.size w7 g a b kk { wo with air := wo.air.take k ++ wo.air.drop (k + 1) } A6 c6 (lr.take k ++ lr.drop (k + 1)) P0 c0 l0 P1 c1 l1 Q0 d0 m0 Q1 d1 m1 Aa Da Ab Db F) ∧ Hid (w7.heap[gf]? = some (.cells #[.int .i64 x1, .int .i64 x2, .int .i64 x3, .int .i64 x4, .slice xA xn xd, .bool false] 63 (0, 0))) ∧ Hid (w7.heap[gx]? = some (.cells #[.int .i64 3, .int .i64 wh, .bool o, .slice Y m e] 58 (0, 0))) ∧ Hid (FlP w7 F ((x1, x2, x3, x4, xA, xn, xd), false) (p, false)) ∧ Hid (Chg [] w0 w7) ∧ Hid (gx < gf ∧ gf < w7.heap.size)) (R := _) (fun JOIN => ?leaf) ?rest
 case leaf =>
  have hHeld := trivial
  refine sy 0 31 rfl rfl ?_ (hS := trivial)
  try simp only [Act.put, sA, s0, s1]
  refine sy 2 33 rfl rfl ?_ (hS := trivial)
  try simp only [Act.put, sA, s0, s1]
  refine sy 3 34 rfl rfl ?_ (hS := trivial)
  try simp only [Act.put, sA, s0, s1]
  refine sy 4 35 rfl rfl ?_ (hS := trivial)
  try simp only [Act.put, sA, s0, s1]
  refine sy 6 37 rfl rfl ?_ (hS := trivial)
  try simp only [Act.put, sA, s0, s1]
  refine sy 9 40 rfl rfl ?_ (hS := trivial)
  try simp only [Act.put, sA, s0, s1]
  refine sy 10 41 rfl rfl ?_ (hS := trivial)
  try simp only [Act.put, sA, s0, s1]
  refine sy 11 42 rfl rfl ?_ (hS := trivial)
  try simp only [Act.put, sA, s0, s1]
  refine sy 13 44 rfl rfl ?_ (hS := trivial)
  try simp only [Act.put, sA, s0, s1]
  refine sy 14 45 rfl rfl ?_ (hS := trivial)
  try simp only [Act.put, sA, s0, s1]
  refine wpAnyH_ready (rs := [1, 5, 12]) (by kernel_rfl) (by simp) ?_
  refine AllReadyH.cons rfl (fun K hK => ?_) (AllReadyH.cons rfl (fun K hK => ?_) (AllReadyH.cons rfl (fun K hK => ?_) AllReadyH.nil))
  ·skip
   replace hK := Lib.hid hK
   obtain ⟨w4, hw4, c4, m4⟩ := news1 wf (.cells #[] 63)
   have W4 := Lib.hid hw4
   have O4 := Lib.hid (flown_empty m4)
   have C4 := Lib.hid c4
   clear hw4 c4 m4
   go_simp
   rw [← W4.out]
   clear hHeld W4
   refine hK.out _ _ trivial (fun hHeld => ?_)
   clear hK K
   try simp only [Act.put, sA, s0, s1]
   refine wpAnyH_ready (rs := [5, 12]) (by kernel_rfl) (by simp) ?_
   refine AllReadyH.cons rfl (fun K hK => ?_) (AllReadyH.cons rfl (fun K hK => ?_) AllReadyH.nil)
   ·skip
    replace hK := Lib.hid hK
    have z := cell_of (Chg.at_ C4.out HW.out.hg (by simp)) 2
    simp only [List.getElem?_toArray, List.getElem?_cons_succ, List.getElem?_cons_zero] at z
    go_simp
    clear z
    refine hK.out _ _ trivial (fun hHeld => ?_)
    clear hK K
    try simp only [Act.put, sA, s0, s1]
    refine sy 7 38 rfl rfl ?_ (hS := trivial)
    try simp only [Act.put, sA, s0, s1]
    refine wpAnyH_ready (rs := [8, 12]) (by kernel_rfl) (by simp) ?_
    refine AllReadyH.cons rfl (fun K hK => ?_) (AllReadyH.cons rfl (fun K hK => ?_) AllReadyH.nil)
    ·skip
     replace hK := Lib.hid hK
     refine step_appK (R := flTy) rfl (.tmp 32) (.tmp 38) rfl rfl (A := some ⟨wf.heap.size, 0, none⟩) (B := some ⟨gA, 0, none⟩) (n := 0) (m := k) (c := 0) (d := cr) (xs := []) (ys := lr.take k) O4.out rfl rfl (R1.out.chg C4.out (by simp)) (by have := HL.out; have := EL.out; have := KL2.out; omega) ?_
     intro A5 c5 w5 o5 g5 e5
     rw [Nat.zero_add]
     have O5 := Lib.hid o5
     obtain ⟨C5, N5⟩ := a1_ok C4.out g5 e5
     clear o5 g5 e5 hHeld
     refine hK.out _ _ trivial (fun hHeld => ?_)
     clear hK K
     try simp only [Act.put, sA, s0, s1]
     refine wpAnyH_ready (rs := [12]) (by kernel_rfl) (by simp) ?_
     refine AllReadyH.cons rfl (fun K hK => ?_) AllReadyH.nil
     replace hK := Lib.hid hK
     have z := cell_of (Chg.at_ C5.out HW.out.hg (by simp)) 2
     simp only [List.getElem?_toArray, List.getElem?_cons_succ, List.getElem?_cons_zero] at z
     go_simp
     clear z
     refine hK.out _ _ trivial (fun hHeld => ?_)
     clear hK K
     try simp only [Act.put, sA, s0, s1]
     refine sy 15 46 rfl rfl ?_ (hS := trivial)
     try simp only [Act.put, sA, s0, s1]
     refine wpAnyH_ready (rs := [16]) (by kernel_rfl) (by simp) ?_
     refine AllReadyH.cons rfl (fun K hK => ?_) AllReadyH.nil
     replace hK := Lib.hid hK
     refine step_appK (R := flTy) rfl (.tmp 39) (.tmp 46) rfl rfl (A := A5) (B := AD) (n := k) (m := lr.length - (k + 1)) (c := c5) (d := cr - (k + 1)) (xs := [] ++ lr.take k) (ys := lr.drop (k + 1)) O5.out (by have := KL2.out; simp; omega) rfl (R2.out.chg C5.out (by simp)) (by have := HL.out; have := EL.out; have := KL2.out; omega) ?_
     intro A6 c6 w6 o6 g6 e6
     have O6 := Lib.hid o6
     obtain ⟨C6, N6⟩ := a2_ok C5.out N5.out g6 e6
     have HG6 := Lib.hid (C6.out.at_ HW.out.hg (by simp))
     clear o6 g6 e6 hHeld
     refine hK.out _ _ trivial (fun hHeld => ?_)
     clear hK K
     try simp only [Act.put, sA, s0, s1]
     refine sy 17 48 rfl rfl ?_ (hS := trivial)
     try simp only [Act.put, sA, s0, s1]
     refine sy 18 49 rfl rfl ?_ (hS := trivial)
     try simp only [Act.put, sA, s0, s1]
     refine wpAnyH_ready (rs := [19]) (by kernel_rfl) (by simp) ?_
     refine AllReadyH.cons rfl (fun K hK => ?_) AllReadyH.nil
     replace hK := Lib.hid hK
     have z := cell_of HG6.out 2
     have fz := free_of HG6.out 2
     simp only [List.getElem?_toArray, List.getElem?_cons_succ, List.getElem?_cons_zero] at z
     go_simp
     clear z fz hHeld
     refine hK.out _ _ trivial (fun hHeld => ?_)
     clear hK K
     try simp only [Act.put, sA, s0, s1]
     refine wpAnyH_done (by kernel_rfl) ?_ _
     exact JOIN A5 c5 A6 c6 _ (dn5_ok HW.out C0.out KL2.out O6.out C6.out N6.out (by have := LOW.out [g] (by simp) g (by simp); omega) GF.out BX.out FX.out HXY.out)
    ·skip
     replace hK := Lib.hid hK
     have z := cell_of (Chg.at_ C4.out HW.out.hg (by simp)) 2
     simp only [List.getElem?_toArray, List.getElem?_cons_succ, List.getElem?_cons_zero] at z
     go_simp
     clear z
     refine hK.out _ _ trivial (fun hHeld => ?_)
     clear hK K
     try simp only [Act.put, sA, s0, s1]
     refine sy 15 46 rfl rfl ?_ (hS := trivial)
     try simp only [Act.put, sA, s0, s1]
     refine wpAnyH_ready (rs := [8]) (by kernel_rfl) (by simp) ?_
     refine AllReadyH.cons rfl (fun K hK => ?_) AllReadyH.nil
     replace hK := Lib.hid hK
     refine step_appK (R := flTy) rfl (.tmp 32) (.tmp 38) rfl rfl (A := some ⟨wf.heap.size, 0, none⟩) (B := some ⟨gA, 0, none⟩) (n := 0) (m := k) (c := 0) (d := cr) (xs := []) (ys := lr.take k) O4.out rfl rfl (R1.out.chg C4.out (by simp)) (by have := HL.out; have := EL.out; have := KL2.out; omega) ?_
     intro A5 c5 w5 o5 g5 e5
     rw [Nat.zero_add]
     have O5 := Lib.hid o5
     obtain ⟨C5, N5⟩ := a1_ok C4.out g5 e5
     clear o5 g5 e5 hHeld
     refine hK.out _ _ trivial (fun hHeld => ?_)
     clear hK K
     try simp only [Act.put, sA, s0, s1]
     refine wpAnyH_ready (rs := [16]) (by kernel_rfl) (by simp) ?_
     refine AllReadyH.cons rfl (fun K hK => ?_) AllReadyH.nil
     replace hK := Lib.hid hK
     refine step_appK (R := flTy) rfl (.tmp 39) (.tmp 46) rfl rfl (A := A5) (B := AD) (n := k) (m := lr.length - (k + 1)) (c := c5) (d := cr - (k + 1)) (xs := [] ++ lr.take k) (ys := lr.drop (k + 1)) O5.out (by have := KL2.out; simp; omega) rfl (R2.out.chg C5.out (by simp)) (by have := HL.out; have := EL.out; have := KL2.out; omega) ?_
     intro A6 c6 w6 o6 g6 e6
     have O6 := Lib.hid o6
     obtain ⟨C6, N6⟩ := a2_ok C5.out N5.out g6 e6
     have HG6 := Lib.hid (C6.out.at_ HW.out.hg (by simp))
     clear o6 g6 e6 hHeld
     refine hK.out _ _ trivial (fun hHeld => ?_)
     clear hK K
     try simp only [Act.put, sA, s0, s1]
     refine sy 17 48 rfl rfl ?_ (hS := trivial)
     try simp only [Act.put, sA, s0, s1]
     refine sy 18 49 rfl rfl ?_ (hS := trivial)
     try simp only [Act.put, sA, s0, s1]
     refine wpAnyH_ready (rs := [19]) (by kernel_rfl) (by simp) ?_
     refine AllReadyH.cons rfl (fun K hK => ?_) AllReadyH.nil
     replace hK := Lib.hid hK
     have z := cell_of HG6.out 2
     have fz := free_of HG6.out 2
     simp only [List.getElem?_toArray, List.getElem?_cons_succ, List.getElem?_cons_zero] at z
     go_simp
     clear z fz hHeld
     refine hK.out _ _ trivial (fun hHeld => ?_)
     clear hK K
     try simp only [Act.put, sA, s0, s1]
     refine wpAnyH_done (by kernel_rfl) ?_ _
     exact JOIN A5 c5 A6 c6 _ (dn5_ok HW.out C0.out KL2.out O6.out C6.out N6.out (by have := LOW.out [g] (by simp) g (by simp); omega) GF.out BX.out FX.out HXY.out)
   ·skip
    replace hK := Lib.hid hK
    have z := cell_of (Chg.at_ C4.out HW.out.hg (by simp)) 2
    simp only [List.getElem?_toArray, List.getElem?_cons_succ, List.getElem?_cons_zero] at z
    go_simp
    clear z
    refine hK.out _ _ trivial (fun hHeld => ?_)
    clear hK K
    try simp only [Act.put, sA, s0, s1]
    refine sy 15 46 rfl rfl ?_ (hS := trivial)
    try simp only [Act.put, sA, s0, s1]
    refine wpAnyH_ready (rs := [5]) (by kernel_rfl) (by simp) ?_
    refine AllReadyH.cons rfl (fun K hK => ?_) AllReadyH.nil
    replace hK := Lib.hid hK
    have z := cell_of (Chg.at_ C4.out HW.out.hg (by simp)) 2
    simp only [List.getElem?_toArray, List.getElem?_cons_succ, List.getElem?_cons_zero] at z
    go_simp
    clear z
    refine hK.out _ _ trivial (fun hHeld => ?_)
    clear hK K
    try simp only [Act.put, sA, s0, s1]
    refine sy 7 38 rfl rfl ?_ (hS := trivial)
    try simp only [Act.put, sA, s0, s1]
    refine wpAnyH_ready (rs := [8]) (by kernel_rfl) (by simp) ?_
    refine AllReadyH.cons rfl (fun K hK => ?_) AllReadyH.nil
    replace hK := Lib.hid hK
    refine step_appK (R := flTy) rfl (.tmp 32) (.tmp 38) rfl rfl (A := some ⟨wf.heap.size, 0, none⟩) (B := some ⟨gA, 0, none⟩) (n := 0) (m := k) (c := 0) (d := cr) (xs := []) (ys := lr.take k) O4.out rfl rfl (R1.out.chg C4.out (by simp)) (by have := HL.out; have := EL.out; have := KL2.out; omega) ?_
    intro A5 c5 w5 o5 g5 e5
    rw [Nat.zero_add]
    have O5 := Lib.hid o5
    obtain ⟨C5, N5⟩ := a1_ok C4.out g5 e5
    clear o5 g5 e5 hHeld
    refine hK.out _ _ trivial (fun hHeld => ?_)
    clear hK K
    try simp only [Act.put, sA, s0, s1]
    refine wpAnyH_ready (rs := [16]) (by kernel_rfl) (by simp) ?_
    refine AllReadyH.cons rfl (fun K hK => ?_) AllReadyH.nil
    replace hK := Lib.hid hK
    refine step_appK (R := flTy) rfl (.tmp 39) (.tmp 46) rfl rfl (A := A5) (B := AD) (n := k) (m := lr.length - (k + 1)) (c := c5) (d := cr - (k + 1)) (xs := [] ++ lr.take k) (ys := lr.drop (k + 1)) O5.out (by have := KL2.out; simp; omega) rfl (R2.out.chg C5.out (by simp)) (by have := HL.out; have := EL.out; have := KL2.out; omega) ?_
    intro A6 c6 w6 o6 g6 e6
    have O6 := Lib.hid o6
    obtain ⟨C6, N6⟩ := a2_ok C5.out N5.out g6 e6
    have HG6 := Lib.hid (C6.out.at_ HW.out.hg (by simp))
    clear o6 g6 e6 hHeld
    refine hK.out _ _ trivial (fun hHeld => ?_)
    clear hK K
    try simp only [Act.put, sA, s0, s1]
    refine sy 17 48 rfl rfl ?_ (hS := trivial)
    try simp only [Act.put, sA, s0, s1]
    refine sy 18 49 rfl rfl ?_ (hS := trivial)
    try simp only [Act.put, sA, s0, s1]
    refine wpAnyH_ready (rs := [19]) (by kernel_rfl) (by simp) ?_
    refine AllReadyH.cons rfl (fun K hK => ?_) AllReadyH.nil
    replace hK := Lib.hid hK
    have z := cell_of HG6.out 2
    have fz := free_of HG6.out 2
    simp only [List.getElem?_toArray, List.getElem?_cons_succ, List.getElem?_cons_zero] at z
    go_simp
    clear z fz hHeld
    refine hK.out _ _ trivial (fun hHeld => ?_)
    clear hK K
    try simp only [Act.put, sA, s0, s1]
    refine wpAnyH_done (by kernel_rfl) ?_ _
    exact JOIN A5 c5 A6 c6 _ (dn5_ok HW.out C0.out KL2.out O6.out C6.out N6.out (by have := LOW.out [g] (by simp) g (by simp); omega) GF.out BX.out FX.out HXY.out)
  ·skip
   replace hK := Lib.hid hK
   have z := cell_of (Chg.at_ (Chg.refl [] wf) HW.out.hg (by simp)) 2
   simp only [List.getElem?_toArray, List.getElem?_cons_succ, List.getElem?_cons_zero] at z
   go_simp
   clear z
   refine hK.out _ _ trivial (fun hHeld => ?_)
   clear hK K
   try simp only [Act.put, sA, s0, s1]
   refine sy 7 38 rfl rfl ?_ (hS := trivial)
   try simp only [Act.put, sA, s0, s1]
   refine wpAnyH_ready (rs := [1, 12]) (by kernel_rfl) (by simp) ?_
   refine AllReadyH.cons rfl (fun K hK => ?_) (AllReadyH.cons rfl (fun K hK => ?_) AllReadyH.nil)
   ·skip
    replace hK := Lib.hid hK
    obtain ⟨w4, hw4, c4, m4⟩ := news1 wf (.cells #[] 63)
    have W4 := Lib.hid hw4
    have O4 := Lib.hid (flown_empty m4)
    have C4 := Lib.hid c4
    clear hw4 c4 m4
    go_simp
    rw [← W4.out]
    clear hHeld W4
    refine hK.out _ _ trivial (fun hHeld => ?_)
    clear hK K
    try simp only [Act.put, sA, s0, s1]
    refine wpAnyH_ready (rs := [8, 12]) (by kernel_rfl) (by simp) ?_
    refine AllReadyH.cons rfl (fun K hK => ?_) (AllReadyH.cons rfl (fun K hK => ?_) AllReadyH.nil)
    ·skip
     replace hK := Lib.hid hK
     refine step_appK (R := flTy) rfl (.tmp 32) (.tmp 38) rfl rfl (A := some ⟨wf.heap.size, 0, none⟩) (B := some ⟨gA, 0, none⟩) (n := 0) (m := k) (c := 0) (d := cr) (xs := []) (ys := lr.take k) O4.out rfl rfl (R1.out.chg C4.out (by simp)) (by have := HL.out; have := EL.out; have := KL2.out; omega) ?_
     intro A5 c5 w5 o5 g5 e5
     rw [Nat.zero_add]
     have O5 := Lib.hid o5
     obtain ⟨C5, N5⟩ := a1_ok C4.out g5 e5
     clear o5 g5 e5 hHeld
     refine hK.out _ _ trivial (fun hHeld => ?_)
     clear hK K
     try simp only [Act.put, sA, s0, s1]
     refine wpAnyH_ready (rs := [12]) (by kernel_rfl) (by simp) ?_
     refine AllReadyH.cons rfl (fun K hK => ?_) AllReadyH.nil
     replace hK := Lib.hid hK
     have z := cell_of (Chg.at_ C5.out HW.out.hg (by simp)) 2
     simp only [List.getElem?_toArray, List.getElem?_cons_succ, List.getElem?_cons_zero] at z
     go_simp
     clear z
     refine hK.out _ _ trivial (fun hHeld => ?_)
     clear hK K
     try simp only [Act.put, sA, s0, s1]
     refine sy 15 46 rfl rfl ?_ (hS := trivial)
     try simp only [Act.put, sA, s0, s1]
     refine wpAnyH_ready (rs := [16]) (by kernel_rfl) (by simp) ?_
     refine AllReadyH.cons rfl (fun K hK => ?_) AllReadyH.nil
     replace hK := Lib.hid hK
     refine step_appK (R := flTy) rfl (.tmp 39) (.tmp 46) rfl rfl (A := A5) (B := AD) (n := k) (m := lr.length - (k + 1)) (c := c5) (d := cr - (k + 1)) (xs := [] ++ lr.take k) (ys := lr.drop (k + 1)) O5.out (by have := KL2.out; simp; omega) rfl (R2.out.chg C5.out (by simp)) (by have := HL.out; have := EL.out; have := KL2.out; omega) ?_
     intro A6 c6 w6 o6 g6 e6
     have O6 := Lib.hid o6
     obtain ⟨C6, N6⟩ := a2_ok C5.out N5.out g6 e6
     have HG6 := Lib.hid (C6.out.at_ HW.out.hg (by simp))
     clear o6 g6 e6 hHeld
     refine hK.out _ _ trivial (fun hHeld => ?_)
     clear hK K
     try simp only [Act.put, sA, s0, s1]
     refine sy 17 48 rfl rfl ?_ (hS := trivial)
     try simp only [Act.put, sA, s0, s1]
     refine sy 18 49 rfl rfl ?_ (hS := trivial)
     try simp only [Act.put, sA, s0, s1]
     refine wpAnyH_ready (rs := [19]) (by kernel_rfl) (by simp) ?_
     refine AllReadyH.cons rfl (fun K hK => ?_) AllReadyH.nil
     replace hK := Lib.hid hK
     have z := cell_of HG6.out 2
     have fz := free_of HG6.out 2
     simp only [List.getElem?_toArray, List.getElem?_cons_succ, List.getElem?_cons_zero] at z
     go_simp
     clear z fz hHeld
     refine hK.out _ _ trivial (fun hHeld => ?_)
     clear hK K
     try simp only [Act.put, sA, s0, s1]
     refine wpAnyH_done (by kernel_rfl) ?_ _
     exact JOIN A5 c5 A6 c6 _ (dn5_ok HW.out C0.out KL2.out O6.out C6.out N6.out (by have := LOW.out [g] (by simp) g (by simp); omega) GF.out BX.out FX.out HXY.out)
    ·skip
     replace hK := Lib.hid hK
     have z := cell_of (Chg.at_ C4.out HW.out.hg (by simp)) 2
     simp only [List.getElem?_toArray, List.getElem?_cons_succ, List.getElem?_cons_zero] at z
     go_simp
     clear z
     refine hK.out _ _ trivial (fun hHeld => ?_)
     clear hK K
     try simp only [Act.put, sA, s0, s1]
     refine sy 15 46 rfl rfl ?_ (hS := trivial)
     try simp only [Act.put, sA, s0, s1]
     refine wpAnyH_ready (rs := [8]) (by kernel_rfl) (by simp) ?_
     refine AllReadyH.cons rfl (fun K hK => ?_) AllReadyH.nil
     replace hK := Lib.hid hK
     refine step_appK (R := flTy) rfl (.tmp 32) (.tmp 38) rfl rfl (A := some ⟨wf.heap.size, 0, none⟩) (B := some ⟨gA, 0, none⟩) (n := 0) (m := k) (c := 0) (d := cr) (xs := []) (ys := lr.take k) O4.out rfl rfl (R1.out.chg C4.out (by simp)) (by have := HL.out; have := EL.out; have := KL2.out; omega) ?_
     intro A5 c5 w5 o5 g5 e5
     rw [Nat.zero_add]
     have O5 := Lib.hid o5
     obtain ⟨C5, N5⟩ := a1_ok C4.out g5 e5
     clear o5 g5 e5 hHeld
     refine hK.out _ _ trivial (fun hHeld => ?_)
     clear hK K
     try simp only [Act.put, sA, s0, s1]
     refine wpAnyH_ready (rs := [16]) (by kernel_rfl) (by simp) ?_
     refine AllReadyH.cons rfl (fun K hK => ?_) AllReadyH.nil
     replace hK := Lib.hid hK
     refine step_appK (R := flTy) rfl (.tmp 39) (.tmp 46) rfl rfl (A := A5) (B := AD) (n := k) (m := lr.length - (k + 1)) (c := c5) (d := cr - (k + 1)) (xs := [] ++ lr.take k) (ys := lr.drop (k + 1)) O5.out (by have := KL2.out; simp; omega) rfl (R2.out.chg C5.out (by simp)) (by have := HL.out; have := EL.out; have := KL2.out; omega) ?_
     intro A6 c6 w6 o6 g6 e6
     have O6 := Lib.hid o6
     obtain ⟨C6, N6⟩ := a2_ok C5.out N5.out g6 e6
     have HG6 := Lib.hid (C6.out.at_ HW.out.hg (by simp))
     clear o6 g6 e6 hHeld
     refine hK.out _ _ trivial (fun hHeld => ?_)
     clear hK K
     try simp only [Act.put, sA, s0, s1]
     refine sy 17 48 rfl rfl ?_ (hS := trivial)
     try simp only [Act.put, sA, s0, s1]
     refine sy 18 49 rfl rfl ?_ (hS := trivial)
     try simp only [Act.put, sA, s0, s1]
     refine wpAnyH_ready (rs := [19]) (by kernel_rfl) (by simp) ?_
     refine AllReadyH.cons rfl (fun K hK => ?_) AllReadyH.nil
     replace hK := Lib.hid hK
     have z := cell_of HG6.out 2
     have fz := free_of HG6.out 2
     simp only [List.getElem?_toArray, List.getElem?_cons_succ, List.getElem?_cons_zero] at z
     go_simp
     clear z fz hHeld
     refine hK.out _ _ trivial (fun hHeld => ?_)
     clear hK K
     try simp only [Act.put, sA, s0, s1]
     refine wpAnyH_done (by kernel_rfl) ?_ _
     exact JOIN A5 c5 A6 c6 _ (dn5_ok HW.out C0.out KL2.out O6.out C6.out N6.out (by have := LOW.out [g] (by simp) g (by simp); omega) GF.out BX.out FX.out HXY.out)
   ·skip
    replace hK := Lib.hid hK
    have z := cell_of (Chg.at_ (Chg.refl [] wf) HW.out.hg (by simp)) 2
    simp only [List.getElem?_toArray, List.getElem?_cons_succ, List.getElem?_cons_zero] at z
    go_simp
    clear z
    refine hK.out _ _ trivial (fun hHeld => ?_)
    clear hK K
    try simp only [Act.put, sA, s0, s1]
    refine sy 15 46 rfl rfl ?_ (hS := trivial)
    try simp only [Act.put, sA, s0, s1]
    refine wpAnyH_ready (rs := [1]) (by kernel_rfl) (by simp) ?_
    refine AllReadyH.cons rfl (fun K hK => ?_) AllReadyH.nil
    replace hK := Lib.hid hK
    obtain ⟨w4, hw4, c4, m4⟩ := news1 wf (.cells #[] 63)
    have W4 := Lib.hid hw4
    have O4 := Lib.hid (flown_empty m4)
    have C4 := Lib.hid c4
    clear hw4 c4 m4
    go_simp
    rw [← W4.out]
    clear hHeld W4
    refine hK.out _ _ trivial (fun hHeld => ?_)
    clear hK K
    try simp only [Act.put, sA, s0, s1]
    refine wpAnyH_ready (rs := [8]) (by kernel_rfl) (by simp) ?_
    refine AllReadyH.cons rfl (fun K hK => ?_) AllReadyH.nil
    replace hK := Lib.hid hK
    refine step_appK (R := flTy) rfl (.tmp 32) (.tmp 38) rfl rfl (A := some ⟨wf.heap.size, 0, none⟩) (B := some ⟨gA, 0, none⟩) (n := 0) (m := k) (c := 0) (d := cr) (xs := []) (ys := lr.take k) O4.out rfl rfl (R1.out.chg C4.out (by simp)) (by have := HL.out; have := EL.out; have := KL2.out; omega) ?_
    intro A5 c5 w5 o5 g5 e5
    rw [Nat.zero_add]
    have O5 := Lib.hid o5
    obtain ⟨C5, N5⟩ := a1_ok C4.out g5 e5
    clear o5 g5 e5 hHeld
    refine hK.out _ _ trivial (fun hHeld => ?_)
    clear hK K
    try simp only [Act.put, sA, s0, s1]
    refine wpAnyH_ready (rs := [16]) (by kernel_rfl) (by simp) ?_
    refine AllReadyH.cons rfl (fun K hK => ?_) AllReadyH.nil
    replace hK := Lib.hid hK
    refine step_appK (R := flTy) rfl (.tmp 39) (.tmp 46) rfl rfl (A := A5) (B := AD) (n := k) (m := lr.length - (k + 1)) (c := c5) (d := cr - (k + 1)) (xs := [] ++ lr.take k) (ys := lr.drop (k + 1)) O5.out (by have := KL2.out; simp; omega) rfl (R2.out.chg C5.out (by simp)) (by have := HL.out; have := EL.out; have := KL2.out; omega) ?_
    intro A6 c6 w6 o6 g6 e6
    have O6 := Lib.hid o6
    obtain ⟨C6, N6⟩ := a2_ok C5.out N5.out g6 e6
    have HG6 := Lib.hid (C6.out.at_ HW.out.hg (by simp))
    clear o6 g6 e6 hHeld
    refine hK.out _ _ trivial (fun hHeld => ?_)
    clear hK K
    try simp only [Act.put, sA, s0, s1]
    refine sy 17 48 rfl rfl ?_ (hS := trivial)
    try simp only [Act.put, sA, s0, s1]
    refine sy 18 49 rfl rfl ?_ (hS := trivial)
    try simp only [Act.put, sA, s0, s1]
    refine wpAnyH_ready (rs := [19]) (by kernel_rfl) (by simp) ?_
    refine AllReadyH.cons rfl (fun K hK => ?_) AllReadyH.nil
    replace hK := Lib.hid hK
    have z := cell_of HG6.out 2
    have fz := free_of HG6.out 2
    simp only [List.getElem?_toArray, List.getElem?_cons_succ, List.getElem?_cons_zero] at z
    go_simp
    clear z fz hHeld
    refine hK.out _ _ trivial (fun hHeld => ?_)
    clear hK K
    try simp only [Act.put, sA, s0, s1]
    refine wpAnyH_done (by kernel_rfl) ?_ _
    exact JOIN A5 c5 A6 c6 _ (dn5_ok HW.out C0.out KL2.out O6.out C6.out N6.out (by have := LOW.out [g] (by simp) g (by simp); omega) GF.out BX.out FX.out HXY.out)
  ·skip
   replace hK := Lib.hid hK
   have z := cell_of (Chg.at_ (Chg.refl [] wf) HW.out.hg (by simp)) 2
   simp only [List.getElem?_toArray, List.getElem?_cons_succ, List.getElem?_cons_zero] at z
   go_simp
   clear z
   refine hK.out _ _ trivial (fun hHeld => ?_)
   clear hK K
   try simp only [Act.put, sA, s0, s1]
   refine sy 15 46 rfl rfl ?_ (hS := trivial)
   try simp only [Act.put, sA, s0, s1]
   refine wpAnyH_ready (rs := [1, 5]) (by kernel_rfl) (by simp) ?_
   refine AllReadyH.cons rfl (fun K hK => ?_) (AllReadyH.cons rfl (fun K hK => ?_) AllReadyH.nil)
   ·skip
    replace hK := Lib.hid hK
    obtain ⟨w4, hw4, c4, m4⟩ := news1 wf (.cells #[] 63)
    have W4 := Lib.hid hw4
    have O4 := Lib.hid (flown_empty m4)
    have C4 := Lib.hid c4
    clear hw4 c4 m4
    go_simp
    rw [← W4.out]
    clear hHeld W4
    refine hK.out _ _ trivial (fun hHeld => ?_)
    clear hK K
    try simp only [Act.put, sA, s0, s1]
    refine wpAnyH_ready (rs := [5]) (by kernel_rfl) (by simp) ?_
    refine AllReadyH.cons rfl (fun K hK => ?_) AllReadyH.nil
    replace hK := Lib.hid hK
    have z := cell_of (Chg.at_ C4.out HW.out.hg (by simp)) 2
    simp only [List.getElem?_toArray, List.getElem?_cons_succ, List.getElem?_cons_zero] at z
    go_simp
    clear z
    refine hK.out _ _ trivial (fun hHeld => ?_)
    clear hK K
    try simp only [Act.put, sA, s0, s1]
    refine sy 7 38 rfl rfl ?_ (hS := trivial)
    try simp only [Act.put, sA, s0, s1]
    refine wpAnyH_ready (rs := [8]) (by kernel_rfl) (by simp) ?_
    refine AllReadyH.cons rfl (fun K hK => ?_) AllReadyH.nil
    replace hK := Lib.hid hK
    refine step_appK (R := flTy) rfl (.tmp 32) (.tmp 38) rfl rfl (A := some ⟨wf.heap.size, 0, none⟩) (B := some ⟨gA, 0, none⟩) (n := 0) (m := k) (c := 0) (d := cr) (xs := []) (ys := lr.take k) O4.out rfl rfl (R1.out.chg C4.out (by simp)) (by have := HL.out; have := EL.out; have := KL2.out; omega) ?_
    intro A5 c5 w5 o5 g5 e5
    rw [Nat.zero_add]
    have O5 := Lib.hid o5
    obtain ⟨C5, N5⟩ := a1_ok C4.out g5 e5
    clear o5 g5 e5 hHeld
    refine hK.out _ _ trivial (fun hHeld => ?_)
    clear hK K
    try simp only [Act.put, sA, s0, s1]
    refine wpAnyH_ready (rs := [16]) (by kernel_rfl) (by simp) ?_
    refine AllReadyH.cons rfl (fun K hK => ?_) AllReadyH.nil
    replace hK := Lib.hid hK
    refine step_appK (R := flTy) rfl (.tmp 39) (.tmp 46) rfl rfl (A := A5) (B := AD) (n := k) (m := lr.length - (k + 1)) (c := c5) (d := cr - (k + 1)) (xs := [] ++ lr.take k) (ys := lr.drop (k + 1)) O5.out (by have := KL2.out; simp; omega) rfl (R2.out.chg C5.out (by simp)) (by have := HL.out; have := EL.out; have := KL2.out; omega) ?_
    intro A6 c6 w6 o6 g6 e6
    have O6 := Lib.hid o6
    obtain ⟨C6, N6⟩ := a2_ok C5.out N5.out g6 e6
    have HG6 := Lib.hid (C6.out.at_ HW.out.hg (by simp))
    clear o6 g6 e6 hHeld
    refine hK.out _ _ trivial (fun hHeld => ?_)
    clear hK K
    try simp only [Act.put, sA, s0, s1]
    refine sy 17 48 rfl rfl ?_ (hS := trivial)
    try simp only [Act.put, sA, s0, s1]
    refine sy 18 49 rfl rfl ?_ (hS := trivial)
    try simp only [Act.put, sA, s0, s1]
    refine wpAnyH_ready (rs := [19]) (by kernel_rfl) (by simp) ?_
    refine AllReadyH.cons rfl (fun K hK => ?_) AllReadyH.nil
    replace hK := Lib.hid hK
    have z := cell_of HG6.out 2
    have fz := free_of HG6.out 2
    simp only [List.getElem?_toArray, List.getElem?_cons_succ, List.getElem?_cons_zero] at z
    go_simp
    clear z fz hHeld
    refine hK.out _ _ trivial (fun hHeld => ?_)
    clear hK K
    try simp only [Act.put, sA, s0, s1]
    refine wpAnyH_done (by kernel_rfl) ?_ _
    exact JOIN A5 c5 A6 c6 _ (dn5_ok HW.out C0.out KL2.out O6.out C6.out N6.out (by have := LOW.out [g] (by simp) g (by simp); omega) GF.out BX.out FX.out HXY.out)
   ·skip
    replace hK := Lib.hid hK
    have z := cell_of (Chg.at_ (Chg.refl [] wf) HW.out.hg (by simp)) 2
    simp only [List.getElem?_toArray, List.getElem?_cons_succ, List.getElem?_cons_zero] at z
    go_simp
    clear z
    refine hK.out _ _ trivial (fun hHeld => ?_)
    clear hK K
    try simp only [Act.put, sA, s0, s1]
    refine sy 7 38 rfl rfl ?_ (hS := trivial)
    try simp only [Act.put, sA, s0, s1]
    refine wpAnyH_ready (rs := [1]) (by kernel_rfl) (by simp) ?_
    refine AllReadyH.cons rfl (fun K hK => ?_) AllReadyH.nil
    replace hK := Lib.hid hK
    obtain ⟨w4, hw4, c4, m4⟩ := news1 wf (.cells #[] 63)
    have W4 := Lib.hid hw4
    have O4 := Lib.hid (flown_empty m4)
    have C4 := Lib.hid c4
    clear hw4 c4 m4
    go_simp
    rw [← W4.out]
    clear hHeld W4
    refine hK.out _ _ trivial (fun hHeld => ?_)
    clear hK K
    try simp only [Act.put, sA, s0, s1]
    refine wpAnyH_ready (rs := [8]) (by kernel_rfl) (by simp) ?_
    refine AllReadyH.cons rfl (fun K hK => ?_) AllReadyH.nil
    replace hK := Lib.hid hK
    refine step_appK (R := flTy) rfl (.tmp 32) (.tmp 38) rfl rfl (A := some ⟨wf.heap.size, 0, none⟩) (B := some ⟨gA, 0, none⟩) (n := 0) (m := k) (c := 0) (d := cr) (xs := []) (ys := lr.take k) O4.out rfl rfl (R1.out.chg C4.out (by simp)) (by have := HL.out; have := EL.out; have := KL2.out; omega) ?_
    intro A5 c5 w5 o5 g5 e5
    rw [Nat.zero_add]
    have O5 := Lib.hid o5
    obtain ⟨C5, N5⟩ := a1_ok C4.out g5 e5
    clear o5 g5 e5 hHeld
    refine hK.out _ _ trivial (fun hHeld => ?_)
    clear hK K
    try simp only [Act.put, sA, s0, s1]
    refine wpAnyH_ready (rs := [16]) (by kernel_rfl) (by simp) ?_
    refine AllReadyH.cons rfl (fun K hK => ?_) AllReadyH.nil
    replace hK := Lib.hid hK
    refine step_appK (R := flTy) rfl (.tmp 39) (.tmp 46) rfl rfl (A := A5) (B := AD) (n := k) (m := lr.length - (k + 1)) (c := c5) (d := cr - (k + 1)) (xs := [] ++ lr.take k) (ys := lr.drop (k + 1)) O5.out (by have := KL2.out; simp; omega) rfl (R2.out.chg C5.out (by simp)) (by have := HL.out; have := EL.out; have := KL2.out; omega) ?_
    intro A6 c6 w6 o6 g6 e6
    have O6 := Lib.hid o6
    obtain ⟨C6, N6⟩ := a2_ok C5.out N5.out g6 e6
    have HG6 := Lib.hid (C6.out.at_ HW.out.hg (by simp))
    clear o6 g6 e6 hHeld
    refine hK.out _ _ trivial (fun hHeld => ?_)
    clear hK K
    try simp only [Act.put, sA, s0, s1]
    refine sy 17 48 rfl rfl ?_ (hS := trivial)
    try simp only [Act.put, sA, s0, s1]
    refine sy 18 49 rfl rfl ?_ (hS := trivial)
    try simp only [Act.put, sA, s0, s1]
    refine wpAnyH_ready (rs := [19]) (by kernel_rfl) (by simp) ?_
    refine AllReadyH.cons rfl (fun K hK => ?_) AllReadyH.nil
    replace hK := Lib.hid hK
    have z := cell_of HG6.out 2
    have fz := free_of HG6.out 2
    simp only [List.getElem?_toArray, List.getElem?_cons_succ, List.getElem?_cons_zero] at z
    go_simp
    clear z fz hHeld
    refine hK.out _ _ trivial (fun hHeld => ?_)
    clear hK K
    try simp only [Act.put, sA, s0, s1]
    refine wpAnyH_done (by kernel_rfl) ?_ _
    exact JOIN A5 c5 A6 c6 _ (dn5_ok HW.out C0.out KL2.out O6.out C6.out N6.out (by have := LOW.out [g] (by simp) g (by simp); omega) GF.out BX.out FX.out HXY.out)
 case rest =>
  rintro A5 c5 A6 c6 w7 ⟨HW, FX, BX, HXY, C0, GF⟩
  have XN : Hid (p.2.2.2.2.length = xn ∧ xn ≤ 400) := Lib.hid (by have q1 : p.2.2.2.2.length = xn := HXY.out.2.2.2.2.1.len; have q2 : p.2.2.2.2.length ≤ 400 := HXY.out.2.2.2.2.2.1; exact ⟨q1, by omega⟩)
  have x0 := cell_of BX.out 0
  have x5 := cell_of FX.out 5
  simp only [List.getElem?_toArray, List.getElem?_cons_succ, List.getElem?_cons_zero] at x0 x5
  go_upto_region 10 with fail
  clear x0 x5
  have zg := cell_of HW.out.hg 0
  have z0 := cell_of FX.out 0
  have z1 := cell_of FX.out 1
  have z2 := cell_of FX.out 2
  have z3 := cell_of FX.out 3
  have z4 := cell_of FX.out 4
  simp only [List.getElem?_toArray, List.getElem?_cons_succ, List.getElem?_cons_zero] at zg z0 z1 z2 z3 z4
  refine wp_region_held_drew (S := fun w' => w'.cell? ⟨g, 0, none⟩ = some (.pointer (some ⟨a, 0, none⟩)) ∧ w'.cell? ⟨gf, 0, none⟩ = some (.int .i64 x1) ∧ w'.cell? ⟨gf, 1, none⟩ = some (.int .i64 x2) ∧ w'.cell? ⟨gf, 2, none⟩ = some (.int .i64 x3) ∧ w'.cell? ⟨gf, 3, none⟩ = some (.int .i64 x4) ∧ w'.cell? ⟨gf, 4, none⟩ = some (.slice xA xn xd)) (by kernel_rfl) ⟨zg, z0, z1, z2, z3, z4⟩ (fun hHeld => ?_)
  have CD := Lib.hid (Chg.refl [] w7).drew
  replace HW := Lib.hid (HW.out.off CD.out (by simp))
  replace BX := Lib.hid (CD.out.at_ BX.out (by simp))
  replace FX := Lib.hid (CD.out.at_ FX.out (by simp))
  replace C0 := Lib.hid (C0.out.trans CD.out)
  replace GF : Hid (gx < gf ∧ gf < w7.drew.heap.size) := Lib.hid ⟨GF.out.1, Nat.lt_of_lt_of_le GF.out.2 CD.out.size⟩
  replace HXY := Lib.hid (show FlP w7.drew F ((x1, x2, x3, x4, xA, xn, xd), false) (p, false) from by
   obtain ⟨a1, a2, a3, a4, a5, a6, a7, a8⟩ := HXY.out
   exact ⟨a1, a2, a3, a4, a5.chg CD.out (by simp), a6, a7, a8⟩)
  have HB := Lib.hid (fun (w' : World) (h1 : w'.heap[g]? = w7.drew.heap[g]?) (h2 : w'.heap[gf]? = w7.drew.heap[gf]?) => (by
   have zg := cell_of (h1.trans HW.out.hg) 0
   have z0 := cell_of (h2.trans FX.out) 0
   have z1 := cell_of (h2.trans FX.out) 1
   have z2 := cell_of (h2.trans FX.out) 2
   have z3 := cell_of (h2.trans FX.out) 3
   have z4 := cell_of (h2.trans FX.out) 4
   simp only [List.getElem?_toArray, List.getElem?_cons_succ, List.getElem?_cons_zero] at zg z0 z1 z2 z3 z4
   exact ⟨zg, z0, z1, z2, z3, z4⟩ : w'.cell? ⟨g, 0, none⟩ = some (.pointer (some ⟨a, 0, none⟩)) ∧ w'.cell? ⟨gf, 0, none⟩ = some (.int .i64 x1) ∧ w'.cell? ⟨gf, 1, none⟩ = some (.int .i64 x2) ∧ w'.cell? ⟨gf, 2, none⟩ = some (.int .i64 x3) ∧ w'.cell? ⟨gf, 3, none⟩ = some (.int .i64 x4) ∧ w'.cell? ⟨gf, 4, none⟩ = some (.slice xA xn xd)))
  clear CD zg z0 z1 z2 z3 z4
  generalize w7.drew = wd2 at *
  refine sy 0 55 rfl rfl ?_
  try simp only [Act.put, sA, s0, s1]
  refine sy 1 56 rfl rfl ?_
  try simp only [Act.put, sA, s0, s1]
  refine sy 2 57 rfl rfl ?_
  try simp only [Act.put, sA, s0, s1]
  refine sy 3 58 rfl rfl ?_
  try simp only [Act.put, sA, s0, s1]
  refine sy 4 59 rfl rfl ?_
  try simp only [Act.put, sA, s0, s1]
  refine sy 5 60 rfl rfl ?_ (hy := by (intro w hSw; (try dsimp only at hSw); (obtain ⟨q1, q2, q3, q4, q5, q6⟩ := hSw); go_simp; try with_reducible rfl))
  try simp only [Act.put, sA, s0, s1]
  refine sy 6 61 rfl rfl ?_
  try simp only [Act.put, sA, s0, s1]
  refine sy 7 62 rfl rfl ?_ (hy := by (intro w hSw; (try dsimp only at hSw); (obtain ⟨q1, q2, q3, q4, q5, q6⟩ := hSw); go_simp; try with_reducible rfl))
  try simp only [Act.put, sA, s0, s1]
  refine wpAnyH_ready (rs := [8]) (by kernel_rfl) (by simp) ?_
  refine AllReadyH.cons rfl (fun K hK => ?_) AllReadyH.nil
  replace hK := Lib.hid hK
  go_simp
  refine (copypack_any wd2 x1 x2 x3 x4 xA xn xd p.2.2.2.2 HXY.out.2.2.2.2.1 (by have := XN.out; omega)).mono ?_
  rintro r w8 ⟨A8, c8, rfl, f8⟩
  have F8 := Lib.hid f8
  clear f8 hHeld
  refine hK.out _ _ (HB.out w8 (F8.out.2.2.block g (lt_of_heap HW.out.hg) (by simp)) (F8.out.2.2.block gf GF.out.2 (by simp))) (fun hHeld => ?_)
  clear hK K
  try simp only [Act.put, sA, s0, s1]
  refine wpAnyH_ready (rs := [9]) (by kernel_rfl) (by simp) ?_
  refine AllReadyH.cons rfl (fun K hK => ?_) AllReadyH.nil
  replace hK := Lib.hid hK
  go_simp
  refine (recvL (HW.out.off F8.out.2.2 (by simp)).sa (by have := HKK.out; omega) x1 x2 x3 x4 A8 xn c8 p.2.2.2.2 (by have q := F8.out.1.reads; rwa [XN.out.1] at q) (by have := XN.out; omega) (fun y hy => by have := F8.out.2.1 y hy; have := (HW.out.sa.lt).1; omega)).mono ?_
  rintro r w9 ⟨A', D', rfl, s9, n9, m9, h9⟩
  have S9 := Lib.hid s9
  have N9 := Lib.hid n9
  have M9 := Lib.hid m9
  have H9 := Lib.hid h9
  have QG : Hid (w9.heap[g]? = wd2.heap[g]?) := Lib.hid ((h9.block g (Nat.lt_of_lt_of_le (lt_of_heap HW.out.hg) F8.out.2.2.size) (fun q => HW.out.pw.pick (i := 0) (j := 6) rfl rfl (by decide) g (by simp) q)).trans (F8.out.2.2.block g (lt_of_heap HW.out.hg) (by simp)))
  have QF : Hid (w9.heap[gf]? = wd2.heap[gf]?) := Lib.hid ((h9.block gf (Nat.lt_of_lt_of_le GF.out.2 F8.out.2.2.size) (fun q => by have := LOW.out (a :: blkOf Aa) (by simp) gf q; have := GF.out; omega)).trans (F8.out.2.2.block gf GF.out.2 (by simp)))
  clear s9 n9 m9 h9 hHeld
  refine hK.out _ _ (HB.out w9 QG.out QF.out) (fun hHeld => ?_)
  clear hK K
  try simp only [Act.put, sA, s0, s1]
  refine wpAnyH_done (by kernel_rfl) ?_ _
  have W8 := HW.out.off F8.out.2.2 (by simp)
  have C8 := C0.out.trans F8.out.2.2
  have EP : (x1, x2, x3, x4, p.2.2.2.2) = p := by obtain ⟨a1, a2, a3, a4, a5⟩ := HXY.out; rw [show x1 = p.1 from a1, show x2 = p.2.1 from a2, show x3 = p.2.2.1 from a3, show x4 = p.2.2.2.1 from a4]
  have S9' := S9.out
  rw [EP] at S9'
  have W9 : WP w0.heap.size w9 g a b (kk + 2) { wo with air := wo.air.take k ++ wo.air.drop (k + 1), sa := recvS wo.sa p } A6 c6 (lr.take k ++ lr.drop (k + 1)) P0 c0 l0 P1 c1 l1 Q0 d0 m0 Q1 d1 m1 A' D' Ab Db (D'.filter (fun z => decide (w8.heap.size ≤ z)) ++ F) := W8.sesa H9.out (fun z hz => hz) (D'.filter (fun z => decide (w8.heap.size ≤ z))) (K' := kk + 2) (by omega) A' D' _ S9' (fun z hz => by
    rcases M9.out z hz with q | q
    ·exact .inl q
    ·exact .inr (by simp [hz, q])) (fun z hz => by
    simp at hz
    exact ⟨hz.2, S9.out.lt.2.2 z hz.1⟩) (fun z hz => by
    rcases List.mem_cons.1 hz with q | q
    ·exact .inl (by simp [q])
    ·obtain ⟨y, hy, rfl⟩ := of_blkOf q
     exact (N9.out y hy).imp (fun q => by simp [mem_blkOf q]) id) (fun z hz => by
    rcases List.mem_cons.1 hz with q | q
    ·rw [q]; exact S9.out.lt.1
    ·obtain ⟨y, hy, rfl⟩ := of_blkOf q
     exact S9.out.lt.2.1 y hy) (fun z hz hm => by
    simp at hz
    obtain ⟨s, lt, h⟩ := S9.out
    rcases List.mem_cons.1 hm with q | q
    ·rw [q] at hz; exact h.nb hz.1
    ·obtain ⟨y, hy, rfl⟩ := of_blkOf q
     exact (h.far y hy).2 hz.1) C8.size
  have C9 := Lib.hid (C8.on H9.out (fun z hz => (W8.lo (a :: blkOf Aa) (by simp) z hz).1))
  clear hHeld
  generalize hF2 : (D'.filter (fun z => decide (w8.heap.size ≤ z)) ++ F) = F2 at W9
  have HW9 := Lib.hid W9
  clear W8 C8 EP S9' W9 hF2 HW BX FX HXY C0 GF HB F8 S9 N9 M9 H9 QG QF
  go_upto_region 11 with fail
  have zg := cell_of HW9.out.hg 0
  simp only [List.getElem?_toArray, List.getElem?_cons_succ, List.getElem?_cons_zero] at zg
  refine wp_region_held_drew (S := fun w' => w'.cell? ⟨g, 0, none⟩ = some (.pointer (some ⟨a, 0, none⟩))) (by kernel_rfl) zg (fun hHeld => ?_)
  have CD := Lib.hid (Chg.refl [] w9).drew
  replace HW9 := Lib.hid (HW9.out.off CD.out (by simp))
  replace C9 := Lib.hid (C9.out.trans CD.out)
  have Z0 : w9.drew.cell? ⟨g, 0, none⟩ = some (.pointer (some ⟨a, 0, none⟩)) := CD.out.cell zg (by simp)
  have NG : Hid (g ∉ [a]) := Lib.hid (fun q => HW9.out.pw.pick (i := 0) (j := 6) rfl rfl (by decide) g (by simp) (by simp at q; simp [q]))
  clear CD zg
  generalize w9.drew = wt at *
  refine sy 0 65 rfl rfl ?_
  try simp only [Act.put, sA, s0, s1]
  refine sy 1 66 rfl rfl ?_
  try simp only [Act.put, sA, s0, s1]
  refine sy 2 67 rfl rfl ?_
  try simp only [Act.put, sA, s0, s1]
  refine sy 3 68 rfl rfl ?_
  try simp only [Act.put, sA, s0, s1]
  refine sy 4 69 rfl rfl ?_
  try simp only [Act.put, sA, s0, s1]
  refine sy 5 70 rfl rfl ?_
  try simp only [Act.put, sA, s0, s1]
  refine sy 6 71 rfl rfl ?_
  try simp only [Act.put, sA, s0, s1]
  refine sy 8 73 rfl rfl ?_
  try simp only [Act.put, sA, s0, s1]
  refine sy 9 74 rfl rfl ?_
  try simp only [Act.put, sA, s0, s1]
  refine sy 10 75 rfl rfl ?_
  try simp only [Act.put, sA, s0, s1]
  refine sy 11 76 rfl rfl ?_
  try simp only [Act.put, sA, s0, s1]
  refine sy 12 77 rfl rfl ?_
  try simp only [Act.put, sA, s0, s1]
  refine sy 13 78 rfl rfl ?_ (hy := by (intro w hSw; (try dsimp only at hSw); have q := hSw; go_simp; try with_reducible rfl))
  try simp only [Act.put, sA, s0, s1]
  refine sy 16 81 rfl rfl ?_
  try simp only [Act.put, sA, s0, s1]
  refine sy 17 82 rfl rfl ?_
  try simp only [Act.put, sA, s0, s1]
  refine wpAnyH_ready (rs := [7, 14]) (by kernel_rfl) (by simp) ?_
  refine AllReadyH.cons rfl (fun K hK => ?_) (AllReadyH.cons rfl (fun K hK => ?_) AllReadyH.nil)
  ·skip
   replace hK := Lib.hid hK
   have z := cell_of (Chg.at_ (Chg.refl [] wt) HW9.out.hg (by simp)) 5
   simp only [List.getElem?_toArray, List.getElem?_cons_succ, List.getElem?_cons_zero] at z
   go_simp
   clear z
   refine hK.out _ _ ((Chg.refl [] wt).cell Z0 (by simp)) (fun hHeld => ?_)
   clear hK K
   try simp only [Act.put, sA, s0, s1]
   refine wpAnyH_ready (rs := [14]) (by kernel_rfl) (by simp) ?_
   refine AllReadyH.cons rfl (fun K hK => ?_) AllReadyH.nil
   replace hK := Lib.hid hK
   go_simp
   refine (takeL HW9.out.sa).mono ?_
   rintro r wu ⟨cu, lt, rfl, ou, pu, su, hu⟩
   have OU := Lib.hid ou
   have PU := Lib.hid pu
   have SU := Lib.hid su
   have CU := Lib.hid hu
   clear ou pu su hu hHeld
   refine hK.out _ _ (CU.out.cell Z0 NG.out) (fun hHeld => ?_)
   clear hK K
   try simp only [Act.put, sA, s0, s1]
   refine wpAnyH_ready (rs := [15]) (by kernel_rfl) (by simp) ?_
   refine AllReadyH.cons rfl (fun K hK => ?_) AllReadyH.nil
   replace hK := Lib.hid hK
   have QO : OwnK lstTy wu Q0 d0 m0 := HW9.out.q0.chg CU.out (fun y hy hm => HW9.out.pw.pick (i := 4) (j := 6) rfl rfl (by decide) y.block (mem_blkOf hy) (by simp at hm; simp [hm]))
   have LT : lt.length = (recvS wo.sa p).inn.length := PU.out.1
   have LQ : m0.length = wo.t0.length := HW9.out.r0.1
   have OR := OU.out.reads
   rw [LT] at OR
   refine step_appK (R := lstTy) rfl (.tmp 72) (.tmp 79) rfl rfl (A := Q0) (B := A') (n := m0.length) (m := (recvS wo.sa p).inn.length) (c := d0) (d := cu) (xs := m0) (ys := lt) QO rfl rfl OR (by have := HT.out; have := HI.out; omega) ?_
   intro A5 c5 w5 o5 g5 e5
   have O5 := Lib.hid o5
   have C5 : Hid (Chg (blkOf Q0) wu w5) := Lib.hid ((Chg.refl (blkOf Q0) wu).grown g5 (fun k hk => .inl (by simpa [blkOf] using hk)))
   have E5 := Lib.hid e5
   have QN : Hid (g ∉ blkOf Q0) := Lib.hid (fun q => HW9.out.pw.pick (i := 0) (j := 4) rfl rfl (by decide) g (by simp) q)
   have HG5 := Lib.hid (C5.out.at_ (CU.out.at_ HW9.out.hg NG.out) QN.out)
   have LT2 := Lib.hid LT
   clear o5 g5 e5 hHeld QO LT LQ OR
   refine hK.out _ _ (C5.out.cell (CU.out.cell Z0 NG.out) QN.out) (fun hHeld => ?_)
   clear hK K
   try simp only [Act.put, sA, s0, s1]
   refine sy 18 83 rfl rfl ?_
   try simp only [Act.put, sA, s0, s1]
   refine wpAnyH_ready (rs := [19]) (by kernel_rfl) (by simp) ?_
   refine AllReadyH.cons rfl (fun K hK => ?_) AllReadyH.nil
   replace hK := Lib.hid hK
   have z := cell_of HG5.out 5
   have fz := free_of HG5.out 5
   simp only [List.getElem?_toArray, List.getElem?_cons_succ, List.getElem?_cons_zero] at z
   go_simp
   clear z fz hHeld
   refine hK.out _ _ (by have := heap_setCell_same _ g 5 _ _ (.slice A5 (m0.length + (recvS wo.sa p).inn.length) c5) HG5.out; have z := cell_of this 0; simpa using z) (fun hHeld => ?_)
   clear hK K
   try simp only [Act.put, sA, s0, s1]
   refine wpAnyH_done (by kernel_rfl) ?_ _
   have hg' := heap_setCell_same _ g 5 _ _ (.slice A5 (m0.length + (recvS wo.sa p).inn.length) c5) HG5.out
   have cg : Chg [g] w5 (w5.setCell ⟨g, 5, none⟩ (.slice A5 (m0.length + (recvS wo.sa p).inn.length) c5)) := (Chg.refl [g] w5).setCell (.inl (by simp)) _
   generalize (w5.setCell ⟨g, 5, none⟩ (.slice A5 (m0.length + (recvS wo.sa p).inn.length) c5)) = w6 at *
   go_wp2
   go_end0
   have WT := HW9.out.sesa CU.out (fun z hz => by simp at hz; simp [hz]) [] (K' := kk + 4) (by omega) none D' _ (SU.out.more (by omega)) (fun z hz => .inl hz) (by simp) (fun z hz => .inl (by simp [blkOf] at hz; simp [hz])) (fun z hz => by simp [blkOf] at hz; rw [hz]; exact SU.out.lt.1) (by simp) C9.out.size
   have CT := C9.out.on CU.out (fun z hz => (HW9.out.lo (a :: blkOf A') (by simp) z (by simp at hz; simp [hz])).1)
   have A5N : ∀ x, A5 = some x → Q0 = some x ∨ wu.heap.size ≤ x.block := fun x hx => by
    rcases E5.out with q | q
    ·exact .inl (q ▸ hx)
    ·right; rw [q] at hx; cases hx; exact Nat.le_refl _
   have glt : g < wu.heap.size := lt_of_heap WT.hg
   have A5g : g ∉ blkOf A5 := fun hm => by
    obtain ⟨x, hx, q⟩ := of_blkOf hm
    rcases A5N x hx with q2 | q2
    ·exact QN.out (by rw [← q]; exact mem_blkOf q2)
    ·omega
   have hc : Chg (g :: blkOf Q0) wu w6 := (C5.out.mono (fun z hz => .inl (List.mem_cons_of_mem _ hz))).trans (cg.mono (fun z hz => .inl (by simp at hz; simp [hz])))
   have frz : ∀ z ∈ F2, z ∉ g :: blkOf Q0 := fun z hz hm => by
    rcases List.mem_cons.1 hm with q | q
    ·exact WT.pw.pick (i := 8) (j := 0) rfl rfl (by decide) z hz (by simp [q])
    ·exact WT.pw.pick (i := 8) (j := 4) rfl rfl (by decide) z hz q
   have o6 := O5.out.chg cg (fun x hx hm => A5g (by simp at hm; rw [← hm]; exact mem_blkOf hx))
   have l6 := (lp_app WT.r0 (PU.out.more HW9.out.fa)).chg hc frz
   refine ⟨rfl, ⟨_, _, _, _, _, _, _, _, _, _, _, _, _, _, _, _, _, _, _, _, WT.rowQ0 hc (fun z hz => List.mem_cons.1 hz) [] (K' := kk + 4) (Nat.le_refl _) A5 c5 (m0 ++ lt) _ (by rw [hg', show (m0 ++ lt).length = m0.length + (recvS wo.sa p).inn.length from by rw [List.length_append, LT2.out]]; simp) o6 l6 (by simp) (fun z hz => by obtain ⟨y, hy, rfl⟩ := of_blkOf hz; exact (A5N y hy).imp (fun q => mem_blkOf q) id) (fun z hz => by obtain ⟨y, hy, rfl⟩ := of_blkOf hz; exact o6.lt y hy) (by simp) CT.size⟩, CT.on hc (fun z hz => ?_)⟩
   rcases List.mem_cons.1 hz with q | q
   ·exact (WT.lo [g] (by simp) z (by simp [q])).1
   ·exact (WT.lo (blkOf Q0) (by simp) z q).1
  ·skip
   replace hK := Lib.hid hK
   go_simp
   refine (takeL HW9.out.sa).mono ?_
   rintro r wu ⟨cu, lt, rfl, ou, pu, su, hu⟩
   have OU := Lib.hid ou
   have PU := Lib.hid pu
   have SU := Lib.hid su
   have CU := Lib.hid hu
   clear ou pu su hu hHeld
   refine hK.out _ _ (CU.out.cell Z0 NG.out) (fun hHeld => ?_)
   clear hK K
   try simp only [Act.put, sA, s0, s1]
   refine wpAnyH_ready (rs := [7]) (by kernel_rfl) (by simp) ?_
   refine AllReadyH.cons rfl (fun K hK => ?_) AllReadyH.nil
   replace hK := Lib.hid hK
   have z := cell_of (Chg.at_ CU.out HW9.out.hg NG.out) 5
   simp only [List.getElem?_toArray, List.getElem?_cons_succ, List.getElem?_cons_zero] at z
   go_simp
   clear z
   refine hK.out _ _ (CU.out.cell Z0 NG.out) (fun hHeld => ?_)
   clear hK K
   try simp only [Act.put, sA, s0, s1]
   refine wpAnyH_ready (rs := [15]) (by kernel_rfl) (by simp) ?_
   refine AllReadyH.cons rfl (fun K hK => ?_) AllReadyH.nil
   replace hK := Lib.hid hK
   have QO : OwnK lstTy wu Q0 d0 m0 := HW9.out.q0.chg CU.out (fun y hy hm => HW9.out.pw.pick (i := 4) (j := 6) rfl rfl (by decide) y.block (mem_blkOf hy) (by simp at hm; simp [hm]))
   have LT : lt.length = (recvS wo.sa p).inn.length := PU.out.1
   have LQ : m0.length = wo.t0.length := HW9.out.r0.1
   have OR := OU.out.reads
   rw [LT] at OR
   refine step_appK (R := lstTy) rfl (.tmp 72) (.tmp 79) rfl rfl (A := Q0) (B := A') (n := m0.length) (m := (recvS wo.sa p).inn.length) (c := d0) (d := cu) (xs := m0) (ys := lt) QO rfl rfl OR (by have := HT.out; have := HI.out; omega) ?_
   intro A5 c5 w5 o5 g5 e5
   have O5 := Lib.hid o5
   have C5 : Hid (Chg (blkOf Q0) wu w5) := Lib.hid ((Chg.refl (blkOf Q0) wu).grown g5 (fun k hk => .inl (by simpa [blkOf] using hk)))
   have E5 := Lib.hid e5
   have QN : Hid (g ∉ blkOf Q0) := Lib.hid (fun q => HW9.out.pw.pick (i := 0) (j := 4) rfl rfl (by decide) g (by simp) q)
   have HG5 := Lib.hid (C5.out.at_ (CU.out.at_ HW9.out.hg NG.out) QN.out)
   have LT2 := Lib.hid LT
   clear o5 g5 e5 hHeld QO LT LQ OR
   refine hK.out _ _ (C5.out.cell (CU.out.cell Z0 NG.out) QN.out) (fun hHeld => ?_)
   clear hK K
   try simp only [Act.put, sA, s0, s1]
   refine sy 18 83 rfl rfl ?_
   try simp only [Act.put, sA, s0, s1]
   refine wpAnyH_ready (rs := [19]) (by kernel_rfl) (by simp) ?_
   refine AllReadyH.cons rfl (fun K hK => ?_) AllReadyH.nil
   replace hK := Lib.hid hK
   have z := cell_of HG5.out 5
   have fz := free_of HG5.out 5
   simp only [List.getElem?_toArray, List.getElem?_cons_succ, List.getElem?_cons_zero] at z
   go_simp
   clear z fz hHeld
   refine hK.out _ _ (by have := heap_setCell_same _ g 5 _ _ (.slice A5 (m0.length + (recvS wo.sa p).inn.length) c5) HG5.out; have z := cell_of this 0; simpa using z) (fun hHeld => ?_)
   clear hK K
   try simp only [Act.put, sA, s0, s1]
   refine wpAnyH_done (by kernel_rfl) ?_ _
   have hg' := heap_setCell_same _ g 5 _ _ (.slice A5 (m0.length + (recvS wo.sa p).inn.length) c5) HG5.out
   have cg : Chg [g] w5 (w5.setCell ⟨g, 5, none⟩ (.slice A5 (m0.length + (recvS wo.sa p).inn.length) c5)) := (Chg.refl [g] w5).setCell (.inl (by simp)) _
   generalize (w5.setCell ⟨g, 5, none⟩ (.slice A5 (m0.length + (recvS wo.sa p).inn.length) c5)) = w6 at *
   go_wp2
   go_end0
   have WT := HW9.out.sesa CU.out (fun z hz => by simp at hz; simp [hz]) [] (K' := kk + 4) (by omega) none D' _ (SU.out.more (by omega)) (fun z hz => .inl hz) (by simp) (fun z hz => .inl (by simp [blkOf] at hz; simp [hz])) (fun z hz => by simp [blkOf] at hz; rw [hz]; exact SU.out.lt.1) (by simp) C9.out.size
   have CT := C9.out.on CU.out (fun z hz => (HW9.out.lo (a :: blkOf A') (by simp) z (by simp at hz; simp [hz])).1)
   have A5N : ∀ x, A5 = some x → Q0 = some x ∨ wu.heap.size ≤ x.block := fun x hx => by
    rcases E5.out with q | q
    ·exact .inl (q ▸ hx)
    ·right; rw [q] at hx; cases hx; exact Nat.le_refl _
   have glt : g < wu.heap.size := lt_of_heap WT.hg
   have A5g : g ∉ blkOf A5 := fun hm => by
    obtain ⟨x, hx, q⟩ := of_blkOf hm
    rcases A5N x hx with q2 | q2
    ·exact QN.out (by rw [← q]; exact mem_blkOf q2)
    ·omega
   have hc : Chg (g :: blkOf Q0) wu w6 := (C5.out.mono (fun z hz => .inl (List.mem_cons_of_mem _ hz))).trans (cg.mono (fun z hz => .inl (by simp at hz; simp [hz])))
   have frz : ∀ z ∈ F2, z ∉ g :: blkOf Q0 := fun z hz hm => by
    rcases List.mem_cons.1 hm with q | q
    ·exact WT.pw.pick (i := 8) (j := 0) rfl rfl (by decide) z hz (by simp [q])
    ·exact WT.pw.pick (i := 8) (j := 4) rfl rfl (by decide) z hz q
   have o6 := O5.out.chg cg (fun x hx hm => A5g (by simp at hm; rw [← hm]; exact mem_blkOf hx))
   have l6 := (lp_app WT.r0 (PU.out.more HW9.out.fa)).chg hc frz
   refine ⟨rfl, ⟨_, _, _, _, _, _, _, _, _, _, _, _, _, _, _, _, _, _, _, _, WT.rowQ0 hc (fun z hz => List.mem_cons.1 hz) [] (K' := kk + 4) (Nat.le_refl _) A5 c5 (m0 ++ lt) _ (by rw [hg', show (m0 ++ lt).length = m0.length + (recvS wo.sa p).inn.length from by rw [List.length_append, LT2.out]]; simp) o6 l6 (by simp) (fun z hz => by obtain ⟨y, hy, rfl⟩ := of_blkOf hz; exact (A5N y hy).imp (fun q => mem_blkOf q) id) (fun z hz => by obtain ⟨y, hy, rfl⟩ := of_blkOf hz; exact o6.lt y hy) (by simp) CT.size⟩, CT.on hc (fun z hz => ?_)⟩
   rcases List.mem_cons.1 hz with q | q
   ·exact (WT.lo [g] (by simp) z (by simp [q])).1
   ·exact (WT.lo (blkOf Q0) (by simp) z q).1
end
end Go.Proofs.Ytmblalcigbghfaa
