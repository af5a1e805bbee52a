/- The law's at and all. Closed's func, and the search by it. event.Closed. A message as an argument. Rows of messages; as arguments. Rows of bools; as arguments. -/
import Derived.Test.YtdfapiffalmjcaaGreatDoorZsat
import Derived.Test.YtdfapiffalmjcaaGreatDoorZsav
import Derived.Test.YtdfapiffalmjcaaGreatDoorZsaq
import Derived.Deep.Cut
import Derived.BigQuiet
import Derived.Test.YtdfapiffalmjcaaGreatDoorShelf4
import Derived.Test.YtdfapiffalmjcaaGreatDoorZsad
import Derived.Test.YtdfapiffalmjcaaGreatDoorZsaa
namespace Go.Proofs.YtdfapiffalmjcaaGreatDoor
section
open Go.RowKit Go.Lib
set_option linter.unusedSimpArgs false
set_option linter.unusedVariables false


set_option maxRecDepth 100000 in
set_option maxHeartbeats 8000000 in
/-- Those of the first one's path. -/
theorem l9at_any (w : World) (A : Option Addr) (c : Nat) (xs : List EvT) (es : List EvP) (h : RdK evTy w A xs.length xs) (hx : EvsR w xs es) (hn : xs.length ≤ 1000) :
    Calls Tryz.prog 21 #[.slice A xs.length c] w fun r w' => ∃ (A' : Option Addr) (c' : Nat) (ys : List EvT) (fs : List EvP), r = .returned (.slice A' ys.length c') ∧ OwnK evTy w' A' c' ys ∧ EvsR w ys fs ∧ (∀ e ∈ fs, e ∈ es) ∧ ys.length ≤ xs.length ∧ (∀ e ∈ fs, ∀ f ∈ fs, e.p = f.p) ∧ (∀ a, A' = some a → w.heap.size ≤ a.block) ∧ Chg [] w w' := by

  have HA := Lib.hid h
  have HX := Lib.hid hx
  have HN := Lib.hid hn
  clear h hx hn
  go_enter Tryz.func21, Tryz.ntmps21
  go_wp2
  go_loopw [3, 4] (fun o v wr => ∃ (k : Nat) (A2 : Option Addr) (c2 : Nat) (ys : List EvT) (fs : List EvP), k ≤ xs.length ∧ v = .int .i64 k ∧ o = .slice A2 ys.length c2 ∧ Hid (OwnK evTy wr A2 c2 ys) ∧ Hid (EvsR w ys fs) ∧ Hid ((∀ e ∈ fs, e ∈ es) ∧ ys.length ≤ k ∧ ∀ e ∈ fs, ∀ f, es[0]? = some f → e.p = f.p) ∧ Hid (∀ a, A2 = some a → w.heap.size ≤ a.block) ∧ Hid (Chg [] w wr)) (fun _ v _ => xs.length - (RowKit.intOf v).toNat)
  case atStart => exact ⟨0, none, 0, [], [], Nat.zero_le _, rfl, rfl, OwnK.none_ _, EvsR.nil _, Lib.hid (by simp), Lib.hid (by simp), Chg.refl _ _⟩
  case round =>
    obtain ⟨k, A2, c2, ys, fs, hk, rfl, rfl, PO, PE, PS, PN, PC⟩ := hrel
    have j0 : (0 : Int) ≤ (k : Int) := by omega
    by_cases hlt : k < xs.length
    · have j1 : (k : Int) < (xs.length : Int) := by omega
      have j2 : (0 : Int) < (xs.length : Int) := by omega
      have j4 : 0 < xs.length := by omega
      have j3 : IntKind.i64.wrap ((k : Int) + 1) = (k : Int) + 1 := IntWalk.i64_in _ (by have := HN.out; omega)
      obtain ⟨g3, o3, eA, _⟩ := HA.out.line (by omega)
      subst eA
      obtain ⟨x, e, ex, ee, rx⟩ := HX.out.at_ hlt
      obtain ⟨x0, e0, ex0, ee0, rx0⟩ := HX.out.at_ (show 0 < xs.length by omega)
      have EX := Lib.hid ex
      have EE := Lib.hid ee
      have EX0 := Lib.hid ex0
      have EE0 := Lib.hid ee0
      have XP : Hid (x.p = strOf e.p ∧ x0.p = strOf e0.p) := Lib.hid ⟨rx.p, rx0.p⟩
      have RX := Lib.hid rx
      have EM := Lib.hid (List.mem_of_getElem? ee)
      clear ex ee rx ex0 ee0 rx0
      have HB : Hid (∀ w', Chg [] wr w' → w'.cell? ⟨g3, o3 + k * 7 + 2, none⟩ = some (.string x.p) ∧ w'.cell? ⟨g3, o3 + 2, none⟩ = some (.string x0.p)) := Lib.hid (fun w' hc => by
        have q := evCells (HA.out.chg (PC.out.trans hc) (by simp)) EX.out
        have r := evCells (HA.out.chg (PC.out.trans hc) (by simp)) EX0.out
        rw [Nat.zero_mul, Nat.add_zero] at r
        exact ⟨q.2.2.1, r.2.2.1⟩)
      by_cases hp : e.p = e0.p
      rotate_left
      · have p1' : ((x.p == x0.p) : Bool) = false := by rw [XP.out.1, XP.out.2]; exact strOf_ne hp
        have p3' : ¬ x.p.toList = x0.p.toList := by rw [XP.out.1, XP.out.2]; exact strOf_ne3s hp
        have p4' : ((x.p.toList == x0.p.toList) : Bool) = false := by simpa using p3'
        clear hp
        go_upto_region 5 with fail
        refine wp_region_held_drew (S := fun w' => Chg [] wr w') (by kernel_rfl) (Chg.refl [] wr).drew (fun hHeld => ?_)
        refine sy 0 11 rfl rfl ?_
        try simp only [Act.put, sA, s0, s1]
        refine sy 1 12 rfl rfl ?_
        try simp only [Act.put, sA, s0, s1]
        refine sy 2 13 rfl rfl ?_
        try simp only [Act.put, sA, s0, s1]
        refine sy 3 14 rfl rfl ?_
        try simp only [Act.put, sA, s0, s1]
        refine sy 4 15 rfl rfl ?_ (hy := by (intro w hSw; (try dsimp only at hSw); have hq := HB.out _ hSw; obtain ⟨q0, q1⟩ := hq; go_simp; try with_reducible rfl))
        try simp only [Act.put, sA, s0, s1]
        refine sy 5 16 rfl rfl ?_
        try simp only [Act.put, sA, s0, s1]
        refine sy 6 17 rfl rfl ?_
        try simp only [Act.put, sA, s0, s1]
        refine sy 7 18 rfl rfl ?_
        try simp only [Act.put, sA, s0, s1]
        refine sy 8 19 rfl rfl ?_ (hy := by (intro w hSw; (try dsimp only at hSw); have hq := HB.out _ hSw; obtain ⟨q0, q1⟩ := hq; go_simp; try with_reducible rfl))
        try simp only [Act.put, sA, s0, s1]
        refine sy 9 20 rfl rfl ?_
        try simp only [Act.put, sA, s0, s1]
        refine wpAnyH_done (by kernel_rfl) ?_ _
        have PC9 := Lib.hid (PC.out.trans hHeld)
        have PO9 := Lib.hid (PO.out.chg hHeld (by simp))
        clear hHeld HB p1' p3' p4'
        go_wp2
        go_round
        case rel => exact ⟨k + 1, A2, c2, ys, fs, by omega, by go_num, rfl, PO9, PE, Lib.hid ⟨PS.out.1, by have := PS.out.2.1; omega, PS.out.2.2⟩, PN, PC9⟩
        case measure => simp [RowKit.intOf]; omega
      have HP := Lib.hid hp
      have p1' : ((x.p == x0.p) : Bool) = true := by rw [XP.out.1, XP.out.2, hp]; show ((e0.p.toArray == e0.p.toArray) : Bool) = true; simp
      have p4' : ((x.p.toList == x0.p.toList) : Bool) = true := by rw [XP.out.1, XP.out.2, hp]; simp
      clear hp
      go_upto_region 5 with fail
      refine wp_region_held_drew (S := fun w' => Chg [] wr w') (by kernel_rfl) (Chg.refl [] wr).drew (fun hHeld => ?_)
      refine sy 0 11 rfl rfl ?_
      try simp only [Act.put, sA, s0, s1]
      refine sy 1 12 rfl rfl ?_
      try simp only [Act.put, sA, s0, s1]
      refine sy 2 13 rfl rfl ?_
      try simp only [Act.put, sA, s0, s1]
      refine sy 3 14 rfl rfl ?_
      try simp only [Act.put, sA, s0, s1]
      refine sy 4 15 rfl rfl ?_ (hy := by (intro w hSw; (try dsimp only at hSw); have hq := HB.out _ hSw; obtain ⟨q0, q1⟩ := hq; go_simp; try with_reducible rfl))
      try simp only [Act.put, sA, s0, s1]
      refine sy 5 16 rfl rfl ?_
      try simp only [Act.put, sA, s0, s1]
      refine sy 6 17 rfl rfl ?_
      try simp only [Act.put, sA, s0, s1]
      refine sy 7 18 rfl rfl ?_
      try simp only [Act.put, sA, s0, s1]
      refine sy 8 19 rfl rfl ?_ (hy := by (intro w hSw; (try dsimp only at hSw); have hq := HB.out _ hSw; obtain ⟨q0, q1⟩ := hq; go_simp; try with_reducible rfl))
      try simp only [Act.put, sA, s0, s1]
      refine sy 9 20 rfl rfl ?_
      try simp only [Act.put, sA, s0, s1]
      refine wpAnyH_done (by kernel_rfl) ?_ _
      have PC9 := PC.out.trans hHeld
      have PO9 := PO.out.chg hHeld (by simp)
      clear hHeld HB p1' p4'
      generalize wr.drew = w5 at *
      obtain ⟨z0, z1, z2, z3, z4, z5, z6⟩ := evCells (HA.out.chg PC9 (by simp)) EX.out
      obtain ⟨w7, hw, cn, bn⟩ := news1 w5 (.cells #[.int .i64 x.n, .int .i64 x.s, .string x.p, .int .i64 x.k, .int .i64 x.m, .slice x.A x.l x.c, .slice x.B x.bl x.bc] 30)
      have W7 := Lib.hid hw
      have XR := Lib.hid (rd_oneEc bn)
      have PO7 := Lib.hid (PO9.chg cn (by simp))
      have PC7 := Lib.hid (PC9.trans cn)
      have N4 : Hid ((ys.length + 1) * 400 ≤ 140737488355327) := Lib.hid (by have := PS.out.2.1; have := HN.out; omega)
      clear hw cn bn PO9 PC9
      go_wp2_with (first | (at_builtin; rw [← W7.out]; refine wpList_appK (R := evTy) rfl (.tmp 21) (.tmp 26) rfl rfl (A := A2) (n := ys.length) (m := 1) (c := c2) (d := 1) (xs := ys) (ys := [x]) PO7.out rfl rfl XR.out N4.out ?_; intro A9 c9 w9 o9 g9 e9))
      have O9 := Lib.hid o9
      have F9 := Lib.hid (fresh_appE PN.out PC7.out g9 e9)
      have NL : Hid (ys.length + 1 = (ys ++ [x]).length) := Lib.hid (by simp)
      have PS9 : Hid ((∀ f ∈ fs ++ [e], f ∈ es) ∧ (ys ++ [x]).length ≤ k + 1 ∧ ∀ f ∈ fs ++ [e], ∀ g, es[0]? = some g → f.p = g.p) := Lib.hid ⟨fun f hf => (List.mem_append.1 hf).elim (PS.out.1 f) (fun q => by rw [List.mem_singleton.1 q]; exact EM.out), by have := PS.out.2.1; simp; omega, fun f hf g hg => (List.mem_append.1 hf).elim (fun q => PS.out.2.2 f q g hg) (fun q => by rw [List.mem_singleton.1 q]; rw [EE0.out] at hg; cases hg; exact HP.out)⟩
      clear o9 g9 e9 z0 z1 z2 z3 z4 z5 z6
      rw [NL.out]
      go_wp2
      go_round
      case rel => exact ⟨k + 1, A9, c9, ys ++ [x], fs ++ [e], by omega, by go_num, rfl, O9, Lib.hid (PE.out.snoc RX.out), PS9, Lib.hid F9.out.1, Lib.hid F9.out.2⟩
      case measure => simp [RowKit.intOf]; omega
    · obtain rfl : k = xs.length := by omega
      have j1 : ¬ (xs.length : Int) < (xs.length : Int) := by omega
      go_wp2
      go_ret
      have QQ : ∀ a ∈ fs, ∀ b ∈ fs, a.p = b.p := fun a ha b hb => by
        have h0 : 0 < es.length := List.length_pos_of_mem (PS.out.1 a ha)
        rw [PS.out.2.2 a ha _ (List.getElem?_eq_getElem h0), PS.out.2.2 b hb _ (List.getElem?_eq_getElem h0)]
      first
        | exact ⟨A2, c2, ys, rfl, PO.out, fs, PE.out, PS.out.1, PS.out.2.1, QQ, PN.out, PC.out⟩
        | exact ⟨A2, c2, ys, rfl, fs, PO.out, PE.out, PS.out.1, PS.out.2.1, QQ, PN.out, PC.out⟩

set_option maxRecDepth 100000 in
set_option maxHeartbeats 8000000 in
/-- Events of one path, put one by one. -/
theorem l9all_any (w : World) (A : Option Addr) (c : Nat) (xs : List EvT) (es : List EvP) (h : RdK evTy w A xs.length xs) (hx : EvsR w xs es) (hn : xs.length ≤ 900) (hs : ∀ e ∈ es, EvSm e ∧ e.q.length ≤ 100000) (hc : ∀ e ∈ es, chkEv e = 0) (hp : ∀ e ∈ es, ∀ f ∈ es, e.p = f.p) :
    Calls Tryz.prog 22 #[.slice A xs.length c] w fun r w' => ∃ (A' : Option Addr) (c' : Nat) (zs : List EvT), r = .returned (.tuple #[.slice A' zs.length c', .bool true]) ∧ EsF w' w.heap.size w'.heap.size A' c' zs (es.foldl putE []) ∧ Chg [] w w' := by

  have HA := Lib.hid h
  have HX := Lib.hid hx
  have HN := Lib.hid hn
  have HS := Lib.hid hs
  have HC := Lib.hid hc
  have HP := Lib.hid hp
  clear h hx hn hs hc hp
  go_enter Tryz.func22, Tryz.ntmps22
  go_wp2
  go_loopw [4, 5] (fun v4 v5 wr => ∃ (k : Nat) (A1 : Option Addr) (d1 : Nat) (zs : List EvT) (cs : List EvP), k ≤ xs.length ∧ v5 = .int .i64 k ∧ v4 = .slice A1 zs.length d1 ∧ Hid (cs = (es.take k).foldl putE []) ∧ Hid (EsF wr w.heap.size wr.heap.size A1 d1 zs cs) ∧ Hid (Chg [] w wr)) (fun _ v5 _ => xs.length - (RowKit.intOf v5).toNat)
  case atStart => exact ⟨0, none, 0, [], [], Nat.zero_le _, rfl, rfl, Lib.hid rfl, EsF.nil _ _ _, Chg.refl _ _⟩
  case round =>
    obtain ⟨k, A1, d1, zs, cs, hk, rfl, rfl, CS, PO, PC⟩ := hrel
    have j0 : (0 : Int) ≤ (k : Int) := by omega
    by_cases hlt : k < xs.length
    · have j1 : (k : Int) < (xs.length : Int) := by omega
      have j3 : IntKind.i64.wrap ((k : Int) + 1) = (k : Int) + 1 := IntWalk.i64_in _ (by have := HN.out; omega)
      obtain ⟨g3, o3, eA, _⟩ := HA.out.line (by omega)
      subst eA
      obtain ⟨x, e, ex, ee, rx⟩ := HX.out.at_ hlt
      obtain ⟨z0, z1, z2, z3, z4, z5, z6⟩ := evCells (HA.out.chg PC.out (by simp)) ex
      have EE := Lib.hid ee
      have EM := Lib.hid (List.mem_of_getElem? ee)
      have CIN : Hid (∀ f ∈ cs, f ∈ es) := Lib.hid (fun f hf => by
        rw [CS.out] at hf
        rcases puts_mem hf with q | q
        · simp at q
        · exact List.mem_of_mem_take q)
      have CLEN : Hid (cs.length ≤ k) := Lib.hid (by
        rw [CS.out]
        have a := puts_len (es.take k) []
        rw [List.length_take] at a
        simp at a ⊢
        omega)
      have ZL : Hid (zs.length ≤ 1000) := Lib.hid (by have := PO.out.all.ev.1; have := CLEN.out; have := HN.out; omega)
      have OKC : Hid (ShOk cs) := Lib.hid (by
        rw [CS.out]
        exact puts_ok (es.take k) [] (by simp [ShOk]) (fun y hy => HC.out y (List.mem_of_mem_take hy)) (fun u hu v hv => by simp at hu) (fun u hu v hv => HP.out u (List.mem_of_mem_take hu) v (List.mem_of_mem_take hv)))
      have VJ : Hid (shJoinE cs [e] = (0, putE cs e)) := Lib.hid (shPut_yes OKC.out (HC.out e EM.out) (fun u hu => HP.out u (CIN.out u (List.mem_of_getElem? hu)) e EM.out))
      have OK2 : Hid (shE (putE cs e) = 0) := Lib.hid (shE_zero.2 (put_ok OKC.out (HC.out e EM.out) (fun u hu => HP.out u (CIN.out u hu) e EM.out)))
      have CS1 : Hid (putE cs e = (es.take (k + 1)).foldl putE []) := Lib.hid (by
        rw [List.take_add_one, EE.out]
        simp only [Option.toList, List.foldl_append, List.foldl_cons, List.foldl_nil]
        rw [← CS.out])
      have CALL := Lib.hid (shput_any wr A1 d1 zs cs x e PO.out.row.reads PO.out.all.ev ZL.out (fun f hf => HS.out f (CIN.out f hf)) (rx.chg PC.out) (HS.out e EM.out))
      clear ex ee rx
      go_wp2_with fail
      clear z0 z1 z2 z3 z4 z5 z6
      refine CALL.out.mono ?_
      rintro r w7 ⟨A7, c7, us, rfl, he, hc⟩
      rw [VJ.out] at he ⊢
      have P7 := Lib.hid (PC.out.trans hc)
      have O7 : Hid (EsF w7 w.heap.size w7.heap.size A7 c7 us (putE cs e)) := Lib.hid (he.low PC.out.size)
      have PM : Hid (∀ f ∈ putE cs e, EvSm f) := Lib.hid (fun f hf => by
        rcases put_mem hf with q | q
        · rw [q]; exact (HS.out e EM.out).1
        · exact (HS.out f (CIN.out f q)).1)
      have UL : Hid (us.length ≤ 100000) := Lib.hid (by have := O7.out.all.ev.1; have := put_len cs e; have := CLEN.out; have := HN.out; omega)
      clear he hc CALL PO PC
      go_wp2_with fail
      refine (shcheck_any w7 A7 c7 us (putE cs e) O7.out.row.reads O7.out.all.ev UL.out PM.out).mono ?_
      rintro r w8 ⟨rfl, hc⟩
      rw [OK2.out]
      have P8 := Lib.hid (P7.out.trans hc)
      have O8 := Lib.hid ((O7.out.chg hc (by simp)).mono hc.size)
      clear hc O7 P7
      go_wp2
      go_round
      case rel => exact ⟨k + 1, A7, c7, us, putE cs e, by omega, by go_num, rfl, CS1, O8, P8⟩
      case measure => simp [RowKit.intOf]; omega
    · obtain rfl : k = xs.length := by omega
      have j1 : ¬ (xs.length : Int) < (xs.length : Int) := by omega
      have CF : Hid (cs = es.foldl putE []) := Lib.hid (by rw [CS.out, HX.out.1, List.take_length])
      go_wp2
      go_ret2
      rw [← CF.out]
      exact ⟨A1, d1, zs, rfl, PO.out, PC.out⟩
end
section
open Go.RowKit Go.Lib
set_option linter.unusedSimpArgs false
set_option linter.unusedVariables false


set_option maxRecDepth 100000 in
set_option maxHeartbeats 4000000 in
theorem evclosed2_any (w : World) (gp : Nat) (A : Option Addr) (c : Nat) (xs : List EvT) (es : List EvP) (y : EvT) (f : EvP) (hp : w.heap[gp]? = some (.cells #[.slice A xs.length c] 22 (0, 0))) (h : RdK evTy w A xs.length xs) (hx : EvsR w xs es) (hu : UpE xs) (hf : FitE w xs) (hn : xs.length ≤ 100000) (hs : ∀ e ∈ es, e.q.length ≤ 140737488351232) (hy : EvR w y f) (fy : FitW w y.B y.bl y.bc) (hl : f.q.length ≤ 140737488351232) :
    Calls Tryz.prog 59 #[.agg #[.int .i64 y.n, .int .i64 y.s, .string y.p, .int .i64 y.k, .int .i64 y.m, .slice y.A y.l y.c, .slice y.B y.bl y.bc], .pointer (some ⟨gp, 0, none⟩)] w fun r w' => r = .returned (.bool (!bringsE es f)) ∧ Chg [] w w' := by
  obtain ⟨w1, hw1, c1, b1⟩ := news1 w (.cells #[.int .i64 y.n, .int .i64 y.s, .string y.p, .int .i64 y.k, .int .i64 y.m, .slice y.A y.l y.c, .slice y.B y.bl y.bc] 30)
  have W1 := Lib.hid hw1
  have C1 := Lib.hid c1
  have BR := Lib.hid (evbrings_any w1 A c xs es y f (h.chg c1 (by simp)) (hx.chg c1) hu (hf.chg c1) (hy.chg c1) (fy.chg c1) hn ⟨hs, hl⟩)
  have p0 := cell_of (c1.at_ hp (by simp)) 0
  have y0 := cell_of b1 0
  have y1 := cell_of b1 1
  have y2 := cell_of b1 2
  have y3 := cell_of b1 3
  have y4 := cell_of b1 4
  have y5 := cell_of b1 5
  have y6 := cell_of b1 6
  simp only [List.getElem?_toArray, List.getElem?_cons_succ, List.getElem?_cons_zero] at p0 y0 y1 y2 y3 y4 y5 y6
  clear hw1 c1 b1 hp h hx hu hf hn hs hy fy hl
  generalize hv : bringsE es f = v at *
  have HV := Lib.hid hv
  clear hv
  go_enter Tryz.func59, Tryz.ntmps59
  go_upto_region 1 with fail
  rw [← W1.out]
  generalize w.heap.size = g1 at *
  clear W1
  go_wp2_with fail
  refine BR.out.mono ?_
  rintro r w2 ⟨rfl, hc⟩
  replace C1 := Lib.hid (C1.out.trans hc)
  clear hc BR p0 y0 y1 y2 y3 y4 y5 y6
  go_wp2
  go_ret
  exact ⟨rfl, C1.out⟩
theorem all_at_no {α : Type} {p : α → Bool} {l : List α} {k : Nat} {x : α} (h : l[k]? = some x) (hp : p x = false) : l.all p = false := by
  rcases q : l.all p with _ | _
  · rfl
  · have := List.all_eq_true.1 q x (List.mem_of_getElem? h)
    rw [hp] at this
    exact absurd this (by decide)
set_option maxRecDepth 100000 in
set_option maxHeartbeats 4000000 in
theorem evindex_any (w : World) (gp : Nat) (A : Option Addr) (c : Nat) (xs : List EvT) (es : List EvP) (hp : w.heap[gp]? = some (.cells #[.slice A xs.length c] 22 (0, 0))) (h : RdK evTy w A xs.length xs) (hx : EvsR w xs es) (hu : UpE xs) (hf : FitE w xs) (hn : xs.length ≤ 100000) (hs : ∀ e ∈ es, e.q.length ≤ 140737488351232) :
    Calls Tryz.prog 97 #[.slice A xs.length c, .func (.func 59) #[] #[.pointer (some ⟨gp, 0, none⟩)]] w fun r w' => (∃ v : Int, r = .returned (.int .i64 v) ∧ es.all (bringsE es) = decide (v < 0)) ∧ Chg [] w w' := by
  have HP := Lib.hid hp
  have HA := Lib.hid h
  have HX := Lib.hid hx
  have HU := Lib.hid hu
  have HF := Lib.hid hf
  have HN := Lib.hid hn
  have HS := Lib.hid hs
  clear hp h hx hu hf hn hs
  go_enter Tryz.func97, Tryz.ntmps97
  go_wp2
  go_loopw [5, 8] (fun v5 v8 wr => ∃ (k : Nat), k ≤ xs.length ∧ v8 = .int .i64 k ∧ Hid ((es.take k).all (bringsE es) = true) ∧ Hid (Chg [] w wr)) (fun _ v8 _ => xs.length - (RowKit.intOf v8).toNat)
  case atStart => exact ⟨0, Nat.zero_le _, rfl, Lib.hid rfl, Chg.refl _ _⟩
  case round =>
    obtain ⟨k, hk, rfl, FN, RC⟩ := hrel
    have i0 : (0 : Int) ≤ (k : Int) := by omega
    by_cases hlt : k < xs.length
    · have i1 : (k : Int) < (xs.length : Int) := by omega
      have i3 : IntKind.i64.wrap ((k : Int) + 1) = (k : Int) + 1 := IntWalk.i64_in _ (by have := HN.out; omega)
      obtain ⟨x, e, ex, ee, rx⟩ := HX.out.at_ hlt
      obtain ⟨g, o, eA, _⟩ := HA.out.line (by omega)
      subst eA
      obtain ⟨z0, z1, z2, z3, z4, z5, z6⟩ := evCells (HA.out.chg RC.out (by simp)) ex
      have EE := Lib.hid ee
      have CL := Lib.hid (evclosed2_any wr gp _ c xs es x e (RC.out.at_ HP.out (by simp)) (HA.out.chg RC.out (by simp)) (HX.out.chg RC.out) HU.out (HF.out.chg RC.out) HN.out HS.out (rx.chg RC.out) ((HF.out x (List.mem_of_getElem? ex)).chg RC.out) (HS.out e (List.mem_of_getElem? ee)))
      clear ex ee rx
      go_wp2_with fail
      refine CL.out.mono ?_
      rintro r w2 ⟨rfl, hc⟩
      have C2 := Lib.hid (RC.out.trans hc)
      clear hc CL z0 z1 z2 z3 z4 z5 z6
      rcases hb : bringsE es e with _ | _
      · have NO : Hid (es.all (bringsE es) = false) := Lib.hid (all_at_no EE.out hb)
        clear hb
        go_wp2
        go_ret
        exact ⟨by rw [NO.out]; simp, C2.out⟩
      · have FN1 : Hid ((es.take (k + 1)).all (bringsE es) = true) := Lib.hid (by rw [all_take_succ EE.out, FN.out, hb]; rfl)
        clear hb FN
        go_wp2
        go_round
        case rel => exact ⟨k + 1, by omega, by go_num, FN1, C2⟩
        case measure => simp [RowKit.intOf]; omega
    · obtain rfl : k = xs.length := by omega
      have ET : es.take xs.length = es := by rw [HX.out.1]; exact List.take_length
      rw [ET] at FN
      clear ET
      have i1 : ¬ (xs.length : Int) < (xs.length : Int) := by omega
      go_wp2
      go_ret
      exact ⟨by rw [FN.out]; simp, RC.out⟩
set_option maxRecDepth 100000 in
set_option maxHeartbeats 4000000 in
theorem evcontains_any (w : World) (gp : Nat) (A : Option Addr) (c : Nat) (xs : List EvT) (es : List EvP) (hp : w.heap[gp]? = some (.cells #[.slice A xs.length c] 22 (0, 0))) (h : RdK evTy w A xs.length xs) (hx : EvsR w xs es) (hu : UpE xs) (hf : FitE w xs) (hn : xs.length ≤ 100000) (hs : ∀ e ∈ es, e.q.length ≤ 140737488351232) :
    Calls Tryz.prog 58 #[.slice A xs.length c, .func (.func 59) #[] #[.pointer (some ⟨gp, 0, none⟩)]] w fun r w' => r = .returned (.bool (!es.all (bringsE es))) ∧ Chg [] w w' := by
  have IX := Lib.hid (evindex_any w gp A c xs es hp h hx hu hf hn hs)
  clear hp h hx hu hf hn hs
  have go : ∀ v, (!es.all (bringsE es)) = v → Calls Tryz.prog 58 #[.slice A xs.length c, .func (.func 59) #[] #[.pointer (some ⟨gp, 0, none⟩)]] w (fun e w' => e = .returned (.bool v) ∧ Chg [] w w') → Calls Tryz.prog 58 #[.slice A xs.length c, .func (.func 59) #[] #[.pointer (some ⟨gp, 0, none⟩)]] w fun e w' => e = .returned (.bool (!es.all (bringsE es))) ∧ Chg [] w w' := fun v hv h => hv ▸ h
  rcases hf : es.all (bringsE es) with _ | _
  · rw [hf] at go
    refine go true rfl ?_
    clear go
    go_enter Tryz.func58, Tryz.ntmps58
    go_wp2_with fail
    refine IX.out.mono ?_
    rintro e w2 ⟨⟨v, rfl, hv⟩, hc⟩
    have C := Lib.hid hc
    have hv2 : decide ((0 : Int) ≤ v) = true := decide_eq_true (by rw [hf] at hv; have := of_decide_eq_false hv.symm; omega)
    clear hv hc hf
    go_wp2
    go_ret
    exact ⟨rfl, C.out⟩
  · rw [hf] at go
    refine go false rfl ?_
    clear go
    go_enter Tryz.func58, Tryz.ntmps58
    go_wp2_with fail
    refine IX.out.mono ?_
    rintro e w2 ⟨⟨v, rfl, hv⟩, hc⟩
    have C := Lib.hid hc
    have hv2 : decide ((0 : Int) ≤ v) = false := decide_eq_false (by rw [hf] at hv; have := of_decide_eq_true hv.symm; omega)
    clear hv hc hf
    go_wp2
    go_ret
    exact ⟨rfl, C.out⟩
end
section
open Go.RowKit Go.Lib
set_option linter.unusedSimpArgs false
set_option linter.unusedVariables false


theorem EvsR.perm {w : World} {xs ms : List EvT} {es : List EvP} (h : EvsR w xs es) (hp : ms.Perm xs) : ∃ fs, fs.Perm es ∧ EvsR w ms fs := by
  obtain ⟨fs, hl, hz⟩ := perm_zip hp es h.1.symm
  have hm : ms.length = xs.length := hp.length_eq
  refine ⟨fs, ?_, hl.symm, fun i x e hx he => ?_⟩
  · have := hz.map Prod.snd
    rwa [List.map_snd_zip (by omega), List.map_snd_zip (by rw [h.1]; exact Nat.le_refl _)] at this
  · have hi : (x, e) ∈ ms.zip fs := List.mem_of_getElem? (i := i) (by rw [List.getElem?_zip_eq_some]; exact ⟨hx, he⟩)
    obtain ⟨j, hj⟩ := List.getElem?_of_mem (hz.mem_iff.1 hi)
    rw [List.getElem?_zip_eq_some] at hj
    exact h.2 j x e hj.1 hj.2
/-- In order, and none beside one of its dot: no two of one dot. -/
theorem up_apart {w : World} {ms : List EvT} {fs : List EvP} (h : EvsR w ms fs) (hu : UpE ms) (ha : ∀ (p : Nat) (a b : EvT), ms[p]? = some a → ms[p + 1]? = some b → ¬ (a.n = b.n ∧ a.s = b.s)) : fs.Pairwise (fun a b => ¬ (a.n = b.n ∧ a.s = b.s)) := by
  rw [List.pairwise_iff_getElem]
  intro i j hi hj hij
  have hl := h.1
  have ei := List.getElem?_eq_getElem (show i < ms.length by omega)
  have ej := List.getElem?_eq_getElem (show j < ms.length by omega)
  have ek := List.getElem?_eq_getElem (show i + 1 < ms.length by omega)
  have r1 := h.2 i _ _ ei (List.getElem?_eq_getElem hi)
  have r2 := h.2 j _ _ ej (List.getElem?_eq_getElem hj)
  rw [← r1.n, ← r1.s, ← r2.n, ← r2.s]
  have a := ha i _ _ ei ek
  have b := up_at hu ei ek (by omega)
  by_cases q : i + 1 = j
  · subst q
    exact a
  · have d := up_at hu ek ej (by omega)
    unfold LtD at b d
    omega
set_option maxRecDepth 100000 in
set_option maxHeartbeats 16000000 in
theorem evclosed_any (w : World) (A : Option Addr) (c : Nat) (xs : List EvT) (es : List EvP) (h : RdK evTy w A xs.length xs) (hx : EvsR w xs es) (hf : FitE w xs) (hn : xs.length ≤ 100000) (hs : ∀ e ∈ es, EvSm e) :
    Calls Tryz.prog 20 #[.slice A xs.length c] w fun r w' => r = .returned (.bool (closedE es)) ∧ Chg [] w w' := by

  have HA := Lib.hid h
  have HX := Lib.hid hx
  have HF := Lib.hid hf
  have HN := Lib.hid hn
  have HS := Lib.hid hs
  clear h hx hf hn hs
  go_enter Tryz.func20, Tryz.ntmps20
  go_wp2_with fail
  refine (cloneEv_any w A xs.length c xs HA.out (by have := HN.out; omega)).mono ?_
  rintro r w1 ⟨A1, c1, rfl, o1, n1, h1⟩
  have O1 := Lib.hid o1
  have N1 := Lib.hid n1
  have C1 := Lib.hid h1
  have L1 := Lib.hid (o1.lt_)
  clear o1 n1 h1
  obtain ⟨w2, hw, hc, b2⟩ := news1 w1 (.cells #[.slice A1 xs.length c1] 22)
  have W2 := Lib.hid hw
  have B2 := Lib.hid b2
  have NE : Hid (w1.heap.size ∉ blkOf A1) := Lib.hid (notin_hi L1.out (Nat.le_refl _))
  replace O1 := Lib.hid (O1.out.chg hc (by simp))
  replace C1 := Lib.hid (C1.out.trans hc)
  clear hw hc b2
  go_upto_region 2 with fail
  rw [← W2.out]
  generalize w1.heap.size = gp at *
  clear W2
  have p0 := cell_of B2.out 0
  simp only [List.getElem?_toArray, List.getElem?_cons_succ, List.getElem?_cons_zero] at p0
  go_wp2_with fail
  refine (sortp_any (R := evTy) Tryz.llLaysE06 Tryz.isAgg30 Tryz.sizeOf30 cmpEv swoEv 56 (enters_of Tryz.func56 (by kernel_rfl) rfl) evcmp_says w2 A1 c1 xs O1.out (by have := HN.out; omega)).mono ?_
  rintro r w3 ⟨rfl, ms, hp, hs, o2, h2⟩
  have RO := Lib.hid o2
  replace B2 := Lib.hid (h2.at_ B2.out NE.out)
  replace C1 := Lib.hid (C1.out.trans' h2 fun i hi => .inr (blkOf_new N1.out i hi))
  have ML : ms.length = xs.length := hp.length_eq
  have UP : Hid (UpE ms) := Lib.hid (hs.imp (fun {x y} q => by
    rw [ltEv, decide_eq_false_iff_not] at q
    exact q))
  obtain ⟨fs, hfp, hr⟩ := HX.out.perm hp
  have RX := Lib.hid (hr.chg C1.out)
  have RF : Hid (FitE w3 ms) := Lib.hid (fun x hx => (HF.out x (hp.mem_iff.1 hx)).chg C1.out)
  have CE : Hid (closedE es = closedE fs) := Lib.hid (closed_perm hfp.symm)
  have ES : Hid (∀ e ∈ fs, EvSm e) := Lib.hid (fun e he => HS.out e (hfp.mem_iff.1 he))
  have MN : Hid (ms.length ≤ 100000) := Lib.hid (by rw [ML]; exact HN.out)
  rw [← ML] at B2 ⊢
  clear hp hs o2 h2 O1 hfp hr p0 HX HF HS HN ML HA N1 L1 NE
  have p0 := cell_of B2.out 0
  simp only [List.getElem?_toArray, List.getElem?_cons_succ, List.getElem?_cons_zero] at p0
  go_wp2
  clear p0
  go_loopw [4, 12] (fun v4 v12 wr => ∃ (k : Nat), k ≤ ms.length ∧ v12 = .int .i64 k ∧ Hid (okAll (fs.take k) = true) ∧ Hid (∀ (p : Nat) (a b : EvT), p + 1 < k → ms[p]? = some a → ms[p + 1]? = some b → ¬ (a.n = b.n ∧ a.s = b.s)) ∧ Hid (Chg [] w3 wr)) (fun _ v12 _ => ms.length - (RowKit.intOf v12).toNat)
  case atStart => exact ⟨0, Nat.zero_le _, rfl, Lib.hid rfl, Lib.hid (fun p a b h => absurd h (by omega)), Chg.refl _ _⟩
  case round =>
    obtain ⟨k, hk, rfl, OKK, AP, PC⟩ := hrel
    have j0 : (0 : Int) ≤ (k : Int) := by omega
    by_cases hlt : k < ms.length
    · have j1 : (k : Int) < (ms.length : Int) := by omega
      have j3 : IntKind.i64.wrap ((k : Int) + 1) = (k : Int) + 1 := IntWalk.i64_in _ (by have := MN.out; omega)
      obtain ⟨g3, o3, eA, _⟩ := RO.out.reads.line (by omega)
      have eo : o3 = 0 := by
        rcases RO.out.shape with ⟨h, _⟩ | ⟨g', h, _⟩
        · rw [h] at eA; cases eA
        · rw [h] at eA; cases eA; rfl
      subst eo
      subst eA
      obtain ⟨x, e, ex, ee, rx⟩ := RX.out.at_ hlt
      obtain ⟨z0, z1, z2, z3, z4, z5, z6⟩ := evCells (RO.out.reads.chg PC.out (by simp)) ex
      simp only [Nat.zero_add] at z0 z1 z2 z3 z4 z5 z6
      have EX := Lib.hid ex
      have EE := Lib.hid ee
      have RX1 := Lib.hid rx
      have ES1 := Lib.hid (ES.out e (List.mem_of_getElem? ee))
      clear ex ee rx
      obtain ⟨w5, hw5, c5, b5⟩ := news1 wr (.cells #[.int .i64 x.n, .int .i64 x.s, .string x.p, .int .i64 x.k, .int .i64 x.m, .slice x.A x.l x.c, .slice x.B x.bl x.bc] 30)
      have W5 := Lib.hid hw5
      have B5 := Lib.hid b5
      replace PC := Lib.hid (PC.out.trans c5)
      clear hw5 c5 b5
      go_upto_region 6 with fail
      rw [← W5.out]
      generalize wr.heap.size = g6 at *
      clear W5 z0 z1 z2 z3 z4 z5 z6
      have P5 := Lib.hid (PC.out.at_ B2.out (by simp))
      have HB : Hid (∀ w', Chg [] w5 w' → (w'.cell? ⟨g6, 0, none⟩ = some (.int .i64 x.n) ∧ w'.cell? ⟨g6, 1, none⟩ = some (.int .i64 x.s) ∧ w'.cell? ⟨g6, 2, none⟩ = some (.string x.p) ∧ w'.cell? ⟨g6, 3, none⟩ = some (.int .i64 x.k) ∧ w'.cell? ⟨g6, 4, none⟩ = some (.int .i64 x.m) ∧ w'.cell? ⟨g6, 5, none⟩ = some (.slice x.A x.l x.c) ∧ w'.cell? ⟨g6, 6, none⟩ = some (.slice x.B x.bl x.bc)) ∧ w'.cell? ⟨gp, 0, none⟩ = some (.slice (some ⟨g3, 0, none⟩) ms.length c1)) := Lib.hid (fun w' hc => by
        have b := hc.at_ B5.out (by simp)
        exact ⟨⟨cell_of b 0, cell_of b 1, cell_of b 2, cell_of b 3, cell_of b 4, cell_of b 5, cell_of b 6⟩, cell_of (hc.at_ P5.out (by simp)) 0⟩)
      have HR : Hid (∀ w', Chg [] w5 w' → ∀ y, ms[k - 1]? = some y → w'.cell? ⟨g3, (k - 1) * 7, none⟩ = some (.int .i64 y.n) ∧ w'.cell? ⟨g3, (k - 1) * 7 + 1, none⟩ = some (.int .i64 y.s)) := Lib.hid (fun w' hc y hy => by
        have q := evCells (RO.out.reads.chg (PC.out.trans hc) (by simp)) hy
        simp only [Nat.zero_add] at q
        exact ⟨q.1, q.2.1⟩)
      have CHK : Hid (∀ w', Chg [] w5 w' → Calls Tryz.prog 35 #[.agg #[.int .i64 x.n, .int .i64 x.s, .string x.p, .int .i64 x.k, .int .i64 x.m, .slice x.A x.l x.c, .slice x.B x.bl x.bc]] w' fun r w2 => r = .returned (.int .i64 (chkEv e)) ∧ Chg [] w' w2) := Lib.hid (fun w' hc => evcheck_any w' x e (RX1.out.chg (PC.out.trans hc)) ES1.out)
      rcases chkEv_two e with e1 | e1
      rotate_left
      · have NO : Hid (closedE fs = false) := Lib.hid (closed_no_chk EE.out (by omega))
        refine wp_region_held_drew (S := fun w' => Chg [] w5 w') (by kernel_rfl) (Chg.refl [] w5).drew (fun hHeld => ?_)
        refine sy 0 17 rfl rfl ?_ (hy := by (intro w hSw; (try dsimp only at hSw); have hq := HB.out _ hSw; obtain ⟨⟨q0, q1, q2, q3, q4, q5, q6⟩, q7⟩ := hq; go_simp; try with_reducible rfl))
        try simp only [Act.put, sA, s0, s1]
        refine wpAnyH_ready (rs := [1]) (by kernel_rfl) (by simp) ?_
        refine AllReadyH.cons rfl (fun K hK => ?_) AllReadyH.nil
        replace hK := Lib.hid hK
        go_simp
        refine (CHK.out _ hHeld).mono ?_
        rintro r w9 ⟨rfl, hc⟩
        rw [e1]
        have C9 := Lib.hid (hHeld.trans hc)
        clear hc hHeld
        refine hK.out _ _ C9.out (fun hHeld => ?_)
        clear hK K
        try simp only [Act.put, sA, s0, s1]
        refine sy 2 19 rfl rfl ?_
        try simp only [Act.put, sA, s0, s1]
        refine sy 3 20 rfl rfl ?_
        try simp only [Act.put, sA, s0, s1]
        refine sn 4 21 rfl rfl ?_
        try simp only [Act.put, sA, s0, s1]
        refine sn 5 22 rfl rfl ?_
        try simp only [Act.put, sA, s0, s1]
        refine sn 6 23 rfl rfl ?_
        try simp only [Act.put, sA, s0, s1]
        refine sn 7 24 rfl rfl ?_
        try simp only [Act.put, sA, s0, s1]
        refine sn 8 25 rfl rfl ?_
        try simp only [Act.put, sA, s0, s1]
        refine sn 9 26 rfl rfl ?_
        try simp only [Act.put, sA, s0, s1]
        refine sn 10 27 rfl rfl ?_
        try simp only [Act.put, sA, s0, s1]
        refine sn 11 28 rfl rfl ?_
        try simp only [Act.put, sA, s0, s1]
        refine sn 12 29 rfl rfl ?_
        try simp only [Act.put, sA, s0, s1]
        refine sn 13 30 rfl rfl ?_
        try simp only [Act.put, sA, s0, s1]
        refine sn 14 31 rfl rfl ?_
        try simp only [Act.put, sA, s0, s1]
        refine sn 15 32 rfl rfl ?_
        try simp only [Act.put, sA, s0, s1]
        refine sn 16 33 rfl rfl ?_
        try simp only [Act.put, sA, s0, s1]
        refine sy 17 34 rfl rfl ?_
        try simp only [Act.put, sA, s0, s1]
        refine wpAnyH_done (by kernel_rfl) ?_ _
        clear hHeld HB HR CHK
        go_wp2
        go_ret
        rw [CE.out, NO.out]
        exact ⟨rfl, C1.out.trans (PC.out.trans C9.out)⟩
      have OT : Hid (okAll (fs.take (k + 1)) = true) := Lib.hid (by rw [okAll_take EE.out, OKK.out, e1]; rfl)
      by_cases k0 : k = 0
      · subst k0
        have AT : Hid (∀ (p : Nat) (a b : EvT), p + 1 < 0 + 1 → ms[p]? = some a → ms[p + 1]? = some b → ¬ (a.n = b.n ∧ a.s = b.s)) := Lib.hid (fun p a b h => absurd h (by omega))
        refine wp_region_held_drew (S := fun w' => Chg [] w5 w') (by kernel_rfl) (Chg.refl [] w5).drew (fun hHeld => ?_)
        refine sy 0 17 rfl rfl ?_ (hy := by (intro w hSw; (try dsimp only at hSw); have hq := HB.out _ hSw; obtain ⟨⟨q0, q1, q2, q3, q4, q5, q6⟩, q7⟩ := hq; go_simp; try with_reducible rfl))
        try simp only [Act.put, sA, s0, s1]
        refine wpAnyH_ready (rs := [1]) (by kernel_rfl) (by simp) ?_
        refine AllReadyH.cons rfl (fun K hK => ?_) AllReadyH.nil
        replace hK := Lib.hid hK
        go_simp
        refine (CHK.out _ hHeld).mono ?_
        rintro r w9 ⟨rfl, hc⟩
        rw [e1]
        have C9 := Lib.hid (hHeld.trans hc)
        clear hc hHeld
        refine hK.out _ _ C9.out (fun hHeld => ?_)
        clear hK K
        try simp only [Act.put, sA, s0, s1]
        refine sy 2 19 rfl rfl ?_
        try simp only [Act.put, sA, s0, s1]
        refine sy 3 20 rfl rfl ?_
        try simp only [Act.put, sA, s0, s1]
        refine sy 4 21 rfl rfl ?_
        try simp only [Act.put, sA, s0, s1]
        refine sy 5 22 rfl rfl ?_
        try simp only [Act.put, sA, s0, s1]
        refine sy 6 23 rfl rfl ?_
        try simp only [Act.put, sA, s0, s1]
        refine sn 7 24 rfl rfl ?_
        try simp only [Act.put, sA, s0, s1]
        refine sn 8 25 rfl rfl ?_
        try simp only [Act.put, sA, s0, s1]
        refine sn 9 26 rfl rfl ?_
        try simp only [Act.put, sA, s0, s1]
        refine sn 10 27 rfl rfl ?_
        try simp only [Act.put, sA, s0, s1]
        refine sn 11 28 rfl rfl ?_
        try simp only [Act.put, sA, s0, s1]
        refine sn 12 29 rfl rfl ?_
        try simp only [Act.put, sA, s0, s1]
        refine sn 13 30 rfl rfl ?_
        try simp only [Act.put, sA, s0, s1]
        refine sn 14 31 rfl rfl ?_
        try simp only [Act.put, sA, s0, s1]
        refine sn 15 32 rfl rfl ?_
        try simp only [Act.put, sA, s0, s1]
        refine sy 16 33 rfl rfl ?_
        try simp only [Act.put, sA, s0, s1]
        refine sy 17 34 rfl rfl ?_
        try simp only [Act.put, sA, s0, s1]
        refine wpAnyH_done (by kernel_rfl) ?_ _
        clear hHeld HB HR CHK
        have RC9 := Lib.hid (PC.out.trans C9.out)
        go_wp2
        go_round
        case rel => exact ⟨0 + 1, by omega, by go_num, OT, AT, RC9⟩
        case measure => simp [RowKit.intOf]; omega
      obtain ⟨y, hy⟩ : ∃ y, ms[k - 1]? = some y := ⟨_, List.getElem?_eq_getElem (by omega)⟩
      have EY := Lib.hid hy
      clear hy
      have g1 : (0 : Int) < (k : Int) := by omega
      have g2 : 0 < k := by omega
      have g3' : decide ((0 : Int) < (k : Int)) = true := by simp; omega
      have g4 : decide (0 < k) = true := by simp; omega
      have w1' : IntKind.i64.wrap ((k : Int) - 1) = ((k - 1 : Nat) : Int) := by rw [IntWalk.i64_in _ (by have := MN.out; omega)]; omega
      have g5 : (0 : Int) ≤ ((k - 1 : Nat) : Int) := by omega
      have g6' : ((k - 1 : Nat) : Int) < (ms.length : Int) := by omega
      have g7 : k - 1 < ms.length := by omega
      by_cases d1 : y.n = x.n ∧ y.s = x.s
      · have NO : Hid (closedE fs = false) := Lib.hid (by
          obtain ⟨y2, f, ey, ef, ry⟩ := RX.out.at_ g7
          rw [EY.out] at ey
          cases ey
          exact closed_no_two ef EE.out (by omega) (fun q => q.1 (by rw [← ry.n, ← ry.s, ← RX1.out.n, ← RX1.out.s]; exact d1)))
        have dq : ((y.n == x.n) : Bool) = true := by simpa using d1.1
        have dr : ((y.s == x.s) : Bool) = true := by simpa using d1.2
        refine wp_region_held_drew (S := fun w' => Chg [] w5 w') (by kernel_rfl) (Chg.refl [] w5).drew (fun hHeld => ?_)
        refine sy 0 17 rfl rfl ?_ (hy := by (intro w hSw; (try dsimp only at hSw); have hq := HB.out _ hSw; obtain ⟨⟨q0, q1, q2, q3, q4, q5, q6⟩, q7⟩ := hq; go_simp; try with_reducible rfl))
        try simp only [Act.put, sA, s0, s1]
        refine wpAnyH_ready (rs := [1]) (by kernel_rfl) (by simp) ?_
        refine AllReadyH.cons rfl (fun K hK => ?_) AllReadyH.nil
        replace hK := Lib.hid hK
        go_simp
        refine (CHK.out _ hHeld).mono ?_
        rintro r w9 ⟨rfl, hc⟩
        rw [e1]
        have C9 := Lib.hid (hHeld.trans hc)
        clear hc hHeld
        refine hK.out _ _ C9.out (fun hHeld => ?_)
        clear hK K
        try simp only [Act.put, sA, s0, s1]
        refine sy 2 19 rfl rfl ?_
        try simp only [Act.put, sA, s0, s1]
        refine sy 3 20 rfl rfl ?_
        try simp only [Act.put, sA, s0, s1]
        refine sy 4 21 rfl rfl ?_
        try simp only [Act.put, sA, s0, s1]
        refine sy 5 22 rfl rfl ?_
        try simp only [Act.put, sA, s0, s1]
        refine sy 6 23 rfl rfl ?_
        try simp only [Act.put, sA, s0, s1]
        refine sy 7 24 rfl rfl ?_ (hy := by (intro w hSw; (try dsimp only at hSw); have hq := HB.out _ hSw; obtain ⟨⟨q0, q1, q2, q3, q4, q5, q6⟩, q7⟩ := hq; go_simp; try with_reducible rfl))
        try simp only [Act.put, sA, s0, s1]
        refine sy 8 25 rfl rfl ?_
        try simp only [Act.put, sA, s0, s1]
        refine sy 9 26 rfl rfl ?_
        try simp only [Act.put, sA, s0, s1]
        refine sy 10 27 rfl rfl ?_
        try simp only [Act.put, sA, s0, s1]
        refine sy 11 28 rfl rfl ?_
        try simp only [Act.put, sA, s0, s1]
        refine sy 12 29 rfl rfl ?_ (hy := by (intro w hSw; (try dsimp only at hSw); have hq := HR.out _ hSw y EY.out; obtain ⟨p0, p1⟩ := hq; go_simp; try with_reducible rfl))
        try simp only [Act.put, sA, s0, s1]
        refine sy 13 30 rfl rfl ?_
        try simp only [Act.put, sA, s0, s1]
        refine sy 14 31 rfl rfl ?_ (hy := by (intro w hSw; (try dsimp only at hSw); have hq := HB.out _ hSw; obtain ⟨⟨q0, q1, q2, q3, q4, q5, q6⟩, q7⟩ := hq; go_simp; try with_reducible rfl))
        try simp only [Act.put, sA, s0, s1]
        refine sy 15 32 rfl rfl ?_
        try simp only [Act.put, sA, s0, s1]
        refine sy 16 33 rfl rfl ?_
        try simp only [Act.put, sA, s0, s1]
        refine sy 17 34 rfl rfl ?_
        try simp only [Act.put, sA, s0, s1]
        refine wpAnyH_done (by kernel_rfl) ?_ _
        clear hHeld HB HR CHK
        go_wp2
        go_ret
        rw [CE.out, NO.out]
        exact ⟨rfl, C1.out.trans (PC.out.trans C9.out)⟩
      have AT : Hid (∀ (p : Nat) (a b : EvT), p + 1 < k + 1 → ms[p]? = some a → ms[p + 1]? = some b → ¬ (a.n = b.n ∧ a.s = b.s)) := Lib.hid (fun p a b h ha hb => by
        by_cases q : p + 1 = k
        · obtain rfl : p = k - 1 := by omega
          rw [EY.out] at ha
          cases ha
          rw [show k - 1 + 1 = k by omega, EX.out] at hb
          cases hb
          exact d1
        · exact AP.out p a b (by omega) ha hb)
      by_cases d2 : y.n = x.n
      · have dq : ((y.n == x.n) : Bool) = true := by simpa using d2
        have dr : ((y.s == x.s) : Bool) = false := by simpa using (fun q => d1 ⟨d2, q⟩)
        refine wp_region_held_drew (S := fun w' => Chg [] w5 w') (by kernel_rfl) (Chg.refl [] w5).drew (fun hHeld => ?_)
        refine sy 0 17 rfl rfl ?_ (hy := by (intro w hSw; (try dsimp only at hSw); have hq := HB.out _ hSw; obtain ⟨⟨q0, q1, q2, q3, q4, q5, q6⟩, q7⟩ := hq; go_simp; try with_reducible rfl))
        try simp only [Act.put, sA, s0, s1]
        refine wpAnyH_ready (rs := [1]) (by kernel_rfl) (by simp) ?_
        refine AllReadyH.cons rfl (fun K hK => ?_) AllReadyH.nil
        replace hK := Lib.hid hK
        go_simp
        refine (CHK.out _ hHeld).mono ?_
        rintro r w9 ⟨rfl, hc⟩
        rw [e1]
        have C9 := Lib.hid (hHeld.trans hc)
        clear hc hHeld
        refine hK.out _ _ C9.out (fun hHeld => ?_)
        clear hK K
        try simp only [Act.put, sA, s0, s1]
        refine sy 2 19 rfl rfl ?_
        try simp only [Act.put, sA, s0, s1]
        refine sy 3 20 rfl rfl ?_
        try simp only [Act.put, sA, s0, s1]
        refine sy 4 21 rfl rfl ?_
        try simp only [Act.put, sA, s0, s1]
        refine sy 5 22 rfl rfl ?_
        try simp only [Act.put, sA, s0, s1]
        refine sy 6 23 rfl rfl ?_
        try simp only [Act.put, sA, s0, s1]
        refine sy 7 24 rfl rfl ?_ (hy := by (intro w hSw; (try dsimp only at hSw); have hq := HB.out _ hSw; obtain ⟨⟨q0, q1, q2, q3, q4, q5, q6⟩, q7⟩ := hq; go_simp; try with_reducible rfl))
        try simp only [Act.put, sA, s0, s1]
        refine sy 8 25 rfl rfl ?_
        try simp only [Act.put, sA, s0, s1]
        refine sy 9 26 rfl rfl ?_
        try simp only [Act.put, sA, s0, s1]
        refine sy 10 27 rfl rfl ?_
        try simp only [Act.put, sA, s0, s1]
        refine sy 11 28 rfl rfl ?_
        try simp only [Act.put, sA, s0, s1]
        refine sy 12 29 rfl rfl ?_ (hy := by (intro w hSw; (try dsimp only at hSw); have hq := HR.out _ hSw y EY.out; obtain ⟨p0, p1⟩ := hq; go_simp; try with_reducible rfl))
        try simp only [Act.put, sA, s0, s1]
        refine sy 13 30 rfl rfl ?_
        try simp only [Act.put, sA, s0, s1]
        refine sy 14 31 rfl rfl ?_ (hy := by (intro w hSw; (try dsimp only at hSw); have hq := HB.out _ hSw; obtain ⟨⟨q0, q1, q2, q3, q4, q5, q6⟩, q7⟩ := hq; go_simp; try with_reducible rfl))
        try simp only [Act.put, sA, s0, s1]
        refine sy 15 32 rfl rfl ?_
        try simp only [Act.put, sA, s0, s1]
        refine sy 16 33 rfl rfl ?_
        try simp only [Act.put, sA, s0, s1]
        refine sy 17 34 rfl rfl ?_
        try simp only [Act.put, sA, s0, s1]
        refine wpAnyH_done (by kernel_rfl) ?_ _
        clear hHeld HB HR CHK
        have RC9 := Lib.hid (PC.out.trans C9.out)
        go_wp2
        go_round
        case rel => exact ⟨k + 1, by omega, by go_num, OT, AT, RC9⟩
        case measure => simp [RowKit.intOf]; omega
      have dq : ((y.n == x.n) : Bool) = false := by simpa using d2
      refine wp_region_held_drew (S := fun w' => Chg [] w5 w') (by kernel_rfl) (Chg.refl [] w5).drew (fun hHeld => ?_)
      refine sy 0 17 rfl rfl ?_ (hy := by (intro w hSw; (try dsimp only at hSw); have hq := HB.out _ hSw; obtain ⟨⟨q0, q1, q2, q3, q4, q5, q6⟩, q7⟩ := hq; go_simp; try with_reducible rfl))
      try simp only [Act.put, sA, s0, s1]
      refine wpAnyH_ready (rs := [1]) (by kernel_rfl) (by simp) ?_
      refine AllReadyH.cons rfl (fun K hK => ?_) AllReadyH.nil
      replace hK := Lib.hid hK
      go_simp
      refine (CHK.out _ hHeld).mono ?_
      rintro r w9 ⟨rfl, hc⟩
      rw [e1]
      have C9 := Lib.hid (hHeld.trans hc)
      clear hc hHeld
      refine hK.out _ _ C9.out (fun hHeld => ?_)
      clear hK K
      try simp only [Act.put, sA, s0, s1]
      refine sy 2 19 rfl rfl ?_
      try simp only [Act.put, sA, s0, s1]
      refine sy 3 20 rfl rfl ?_
      try simp only [Act.put, sA, s0, s1]
      refine sy 4 21 rfl rfl ?_
      try simp only [Act.put, sA, s0, s1]
      refine sy 5 22 rfl rfl ?_
      try simp only [Act.put, sA, s0, s1]
      refine sy 6 23 rfl rfl ?_
      try simp only [Act.put, sA, s0, s1]
      refine sy 7 24 rfl rfl ?_ (hy := by (intro w hSw; (try dsimp only at hSw); have hq := HB.out _ hSw; obtain ⟨⟨q0, q1, q2, q3, q4, q5, q6⟩, q7⟩ := hq; go_simp; try with_reducible rfl))
      try simp only [Act.put, sA, s0, s1]
      refine sy 8 25 rfl rfl ?_
      try simp only [Act.put, sA, s0, s1]
      refine sy 9 26 rfl rfl ?_
      try simp only [Act.put, sA, s0, s1]
      refine sy 10 27 rfl rfl ?_
      try simp only [Act.put, sA, s0, s1]
      refine sy 11 28 rfl rfl ?_
      try simp only [Act.put, sA, s0, s1]
      refine sy 12 29 rfl rfl ?_ (hy := by (intro w hSw; (try dsimp only at hSw); have hq := HR.out _ hSw y EY.out; obtain ⟨p0, p1⟩ := hq; go_simp; try with_reducible rfl))
      try simp only [Act.put, sA, s0, s1]
      refine sy 13 30 rfl rfl ?_
      try simp only [Act.put, sA, s0, s1]
      refine sy 14 31 rfl rfl ?_ (hy := by (intro w hSw; (try dsimp only at hSw); have hq := HB.out _ hSw; obtain ⟨⟨q0, q1, q2, q3, q4, q5, q6⟩, q7⟩ := hq; go_simp; try with_reducible rfl))
      try simp only [Act.put, sA, s0, s1]
      refine sy 15 32 rfl rfl ?_
      try simp only [Act.put, sA, s0, s1]
      refine sy 16 33 rfl rfl ?_
      try simp only [Act.put, sA, s0, s1]
      refine sy 17 34 rfl rfl ?_
      try simp only [Act.put, sA, s0, s1]
      refine wpAnyH_done (by kernel_rfl) ?_ _
      clear hHeld HB HR CHK
      have RC9 := Lib.hid (PC.out.trans C9.out)
      go_wp2
      go_round
      case rel => exact ⟨k + 1, by omega, by go_num, OT, AT, RC9⟩
      case measure => simp [RowKit.intOf]; omega
    · obtain rfl : k = ms.length := by omega
      have j1 : ¬ (ms.length : Int) < (ms.length : Int) := by omega
      have ET : fs.take ms.length = fs := by rw [RX.out.1]; exact List.take_length
      rw [ET] at OKK
      clear ET
      have AN : Hid (closedE fs = fs.all (bringsE fs)) := Lib.hid (closed_brings OKK.out (up_apart RX.out UP.out (fun p a b ha hb => AP.out p a b ((List.getElem?_eq_some_iff.1 hb).1) ha hb)))
      have P5 := Lib.hid (PC.out.at_ B2.out (by simp))
      have p0 := cell_of P5.out 0
      simp only [List.getElem?_toArray, List.getElem?_cons_succ, List.getElem?_cons_zero] at p0
      have SQ : Hid (∀ e ∈ fs, e.q.length ≤ 140737488351232) := Lib.hid (fun e he => (ES.out e he).2.2)
      go_wp2_with fail
      refine (evcontains_any wr gp A1 c1 ms fs P5.out (RO.out.reads.chg PC.out (by simp)) (RX.out.chg PC.out) UP.out (RF.out.chg PC.out) MN.out SQ.out).mono ?_
      rintro r w4 ⟨rfl, hc⟩
      rw [← AN.out]
      have C4 := Lib.hid ((C1.out.trans PC.out).trans hc)
      clear hc p0 AN
      go_wp2
      go_ret
      rw [CE.out]
      exact ⟨by simp, C4.out⟩
end
section
open Go.RowKit Go.WideShapes Go.ChangeShapes Go.Deep
set_option linter.unusedSimpArgs false
set_option linter.unusedVariables false

def boolTy : RowTy Bool where
  enc := fun x => [.bool x]
  k := 1
  T := 4
  TS := 45
  z := false
  zv := .bool false
  bytes := 1
  klen := fun _ => rfl
  one := by intro x v hv; simp at hv; rcases hv with rfl <;> rfl
  zc := rfl
  kpos := by decide
  bpos := by decide
  under := by kernel_rfl
  info := by kernel_rfl
theorem boolCells {w : World} {g o n j : Nat} {xs : List Bool} (h : RdK boolTy w (some ⟨g, o, none⟩) n xs) {x : Bool} (hx : xs[j]? = some x) : w.cell? ⟨g, o + j, none⟩ = some (.bool x) := by
  have := h.at_ j 0 x _ hx rfl
  rwa [show boolTy.k = 1 from rfl, Nat.mul_one, Nat.add_zero] at this

section
variable {H : Type} {enc : TypeId × Value → H} {w : World} {base : Nat} {spare : Nat → Bool} {held : Bool}
theorem open_bools {n : Nat} {cs : List Value} {y : DataW H × List MemPlace} (h : DataW.trod enc Tryz.prog w base spare held n 45 cs = some y) (hz : ∀ k ∈ y.1.weights Tryz.prog 45, k ≤ reachBytes) :
    ∃ A m d zs, cs = [.slice A m d] ∧ RdK boolTy w A m zs ∧ m * 1 ≤ 140737488351232 ∧ m ≤ d := by
  rcases open_slice Tryz.underlying45 h with ⟨rfl, _⟩ | ⟨a, len, cap, m, k, D, Pl, rfl, _, hl, hm, hmm, rfl, hi⟩
  · exact ⟨none, 0, 0, [], rfl, RdK.nil _ _, by decide, by decide⟩
  · have hlm : len ≤ m := by rw [hmm]; split <;> omega
    obtain ⟨hw, _⟩ := weights_slice Tryz.underlying45 hz
    rw [show Tryz.prog.bytesOf 4 = 1 by kernel_rfl] at hw
    simp [reachBytes] at hw
    have hC : Tryz.prog.cellsOf 4 = 1 := by kernel_rfl
    obtain ⟨l, hll, hat⟩ := list_of (Q := fun i (x : Bool) => w.cell? (a.add i) = some (.bool x)) len (fun i hilt => by
      obtain ⟨cs', hc, ht⟩ := hi i (by omega)
      rw [hC] at hc
      obtain ⟨_, hcl, hat⟩ := World.cells?_some hc
      have hcs : ∃ v, cs' = [v] := by
        match cs', hcl with
        | [v], _ => exact ⟨v, rfl⟩
      obtain ⟨v, rfl⟩ := hcs
      obtain ⟨s, e, _⟩ := DataW.trod_bool Tryz.underlying4 ht
      have g0 := hat 0 (by omega)
      have e := List.singleton_inj.1 e
      subst e
      rw [add_add, Nat.mul_one, Nat.add_zero] at g0
      exact ⟨s, g0⟩)
    refine ⟨some a, len, cap, l, rfl, ⟨hll, fun j v hj => ⟨a, rfl, ?_⟩⟩, by omega, hl⟩
    have hj2 := (List.getElem?_eq_some_iff.1 hj).1
    rw [boolTy.flat_len] at hj2
    have hk : boolTy.k = 1 := rfl
    rw [hk, Nat.mul_one] at hj2
    have e := boolTy.flat_at l j 0 _ (List.getElem?_eq_getElem hj2) (by decide)
    rw [hk, Nat.mul_one, Nat.add_zero, hj] at e
    rw [hat j _ (List.getElem?_eq_getElem hj2)]
    exact e.symm
end
end
end Go.Proofs.YtdfapiffalmjcaaGreatDoor
