/- The document's Shelf, Near, Missing (store). The document's writer (tributaryref01): form, put, Num, Raw, Text, Out. The document's writer, call by call. The document's writer: Raw, Text, Out. The document's reader: Open, fail, Left, End, and Num. The document's number, read. The document's number, read: where digits follow, or none. The document's reader: Raw and Text. The document's writer and reader, made since a world w. The document's effects: Check, Same, Less, Size, Bytes. -/
import Derived.Test.YtomgjogkkoigbaaGreatDoorZstj
import Derived.Test.YtomgjogkkoigbaaGreatDoorZstr
import Derived.Test.YtomgjogkkoigbaaGreatDoorZstv
import Derived.Deep.Cut
import Derived.Test.YtomgjogkkoigbaaGreatDoorZsta
import Derived.Test.YtomgjogkkoigbaaGreatDoorZstb
import Derived.Deep.RegionHeld3
import Derived.Deep.AppendLies
import Derived.Test.YtomgjogkkoigbaaGreatDoorZstm
set_option linter.unusedSimpArgs false
set_option linter.unusedVariables false
namespace Go.Proofs.YtomgjogkkoigbaaGreatDoor
section
open Go.RowKit Go.Lib


set_option maxRecDepth 100000 in
set_option maxHeartbeats 8000000 in
theorem ktshelf_any (w : World) (A : Option Addr) (c : Nat) (xs : List EvT) (es : List EvP) (p : List UInt8) (h : RdK evTy w A xs.length xs) (hx : EvsR w xs es) (hn : xs.length ≤ 1000)  (hs : ∀ e ∈ es, EvSm e ∧ e.q.length ≤ 100000) :
  Calls Tryz.prog 24 #[.slice A xs.length c, .string (strOf p)] w fun r w' => ∃ (A' : Option Addr) (c' : Nat) (zs : List EvT), r = .returned (.slice A' zs.length c') ∧ RdK evTy w' A' zs.length zs ∧ EvsR w' zs (es.filter (fun e => decide (e.p = p))) ∧ Chg [] w w' := by
 have HA := Lib.hid h
 have HX := Lib.hid hx
 have HN := Lib.hid hn
 have HS := Lib.hid hs
 skip; clear h hx hn hs
 go_enter Tryz.func24, Tryz.ntmps24
 go_wp2
 go_loopw [5, 6] (fun o i wq => ∃ (k : Nat) (A2 : Option Addr) (d2 : Nat) (us : List EvT), k ≤ xs.length ∧ us.length ≤ k ∧ i = .int .i64 k ∧ o = .slice A2 us.length d2 ∧ Hid (OwnK evTy wq A2 d2 us) ∧ Hid (EvsR w us ((es.take k).filter (fun e => decide (e.p = p)))) ∧ Hid (∀ a, A2 = some a → w.heap.size ≤ a.block) ∧ Hid (Chg [] w wq)) (fun _ i _ => xs.length - (RowKit.intOf i).toNat)
 case atStart => exact ⟨0, none, 0, [], Nat.zero_le _, Nat.le_refl _, rfl, rfl, OwnK.none_ _, Lib.hid (by simpa using EvsR.nil _), Lib.hid (by simp), Chg.refl _ _⟩
 case round =>
  obtain ⟨k, A2, d2, us, hk, hyl, rfl, rfl, RO, RU, RN, RC⟩ := hrel
  have j0 : (0 : Int) ≤ (k : Int) := by omega
  by_cases hlt : k < xs.length
  ·
   have j1 : (k : Int) < (xs.length : Int) := by omega
   have j3 : IntKind.i64.wrap ((k : Int) + 1) = (k : Int) + 1 := IntWalk.i64_in _ (by have := HN.out; omega)
   obtain ⟨g3, o3, eA, _⟩ := HA.out.line (by omega)
   subst eA
   obtain ⟨x, e, ex, ee, rx⟩ := HX.out.at_ hlt
   have RX := Lib.hid rx
   have EX := Lib.hid ex
   have SE : Hid (EvSm e ∧ e.q.length ≤ 100000) := Lib.hid (HS.out e (List.mem_of_getElem? ee))
   have ET : Hid ((es.take (k + 1)).filter (fun e => decide (e.p = p)) = (es.take k).filter (fun e => decide (e.p = p)) ++ [e].filter (fun e => decide (e.p = p))) := Lib.hid (by rw [List.take_add_one, ee, List.filter_append]; rfl)
   have YL := Lib.hid hyl
   obtain ⟨z0, z1, z2, z3, z4, z5, z6⟩ := evCells (HA.out.chg RC.out (by simp)) ex
   clear ex ee rx hyl
   rcases hq : (decide (e.p = p)) with _ | _
   ·
    have EN : Hid ((es.take (k + 1)).filter (fun e => decide (e.p = p)) = (es.take k).filter (fun e => decide (e.p = p))) := Lib.hid (by rw [ET.out, List.filter_cons_of_neg (p := fun e => decide (e.p = p)) (a := e) (l := []) (by show ¬ (decide (e.p = p)) = true; rw [hq]; decide)]; simp)
    clear ET
    have hd : ¬ e.p = p := of_decide_eq_false hq
    have e1 := strOf_ne hd
    have e3 := strOf_ne2 hd
    have e4 : (e.p == p) = false := beq_eq_false_iff_ne.2 hd
    rw [RX.out.p] at z2
    clear hq
    go_upto_region 4 with fail
    clear e1 e3 e4 hd; clear z0 z1 z2 z3 z4 z5 z6; go_wp2; go_round
    case rel => exact ⟨k + 1, A2, d2, us, by omega, by have := YL.out; omega, by go_num, by first | rfl | simp, RO, Lib.hid (by rw [EN.out]; exact RU.out), RN, RC⟩
    case measure => simp [RowKit.intOf]; omega
   ·
    have EN : Hid ((es.take (k + 1)).filter (fun e => decide (e.p = p)) = (es.take k).filter (fun e => decide (e.p = p)) ++ [e]) := Lib.hid (by rw [ET.out, List.filter_cons_of_pos (p := fun e => decide (e.p = p)) (a := e) (l := []) hq]; rfl)
    clear ET
    have hd : e.p = p := of_decide_eq_true hq
    have e4 : (e.p == p) = true := by rw [hd]; exact beq_self_eq_true _
    have e5 : ((strOf e.p == strOf p) : Bool) = true := by rw [hd]; show ((p.toArray == p.toArray) : Bool) = true; simp
    rw [RX.out.p] at z2
    clear hq
    go_upto_region 6 with fail
    clear e4 e5 hd; clear z0 z1 z2 z3 z4 z5 z6
    obtain ⟨z0, z1, z2, z3, z4, z5, z6⟩ := evCells (HA.out.chg RC.out (by simp)) EX.out
    obtain ⟨v1, hw, cn, bn⟩ := news1 wr (.cells #[.int .i64 x.n, .int .i64 x.s, .string x.p, .int .i64 x.k, .int .i64 x.m, .slice x.A x.l x.c, .slice x.B x.bl x.bc] 30)
    have WN := Lib.hid hw
    have XR := Lib.hid (rd_oneEc bn)
    replace RO := Lib.hid (RO.out.chg cn (by simp))
    replace RC := Lib.hid (RC.out.trans cn)
    have N4 : Hid ((us.length + 1) * 400 ≤ 140737488355327) := Lib.hid (by have := YL.out; have := HN.out; omega)
    clear hw cn bn
    go_wp2_with (at_builtin; rw [← WN.out]; refine wpList_appK (R := evTy) rfl (.tmp 20) (.tmp 25) rfl rfl (A := A2) (n := us.length) (m := 1) (c := d2) (d := 1) (xs := us) (ys := [x]) RO.out rfl rfl XR.out N4.out ?_; intro A9 c9 w9 o9 g9 e9)
    clear z0 z1 z2 z3 z4 z5 z6 WN XR N4
    have O9 := Lib.hid o9
    have F9 := Lib.hid (fresh_appE RN.out RC.out g9 e9)
    clear o9 g9 e9; go_wp2; go_round
    case rel => exact ⟨k + 1, A9, c9, us ++ [x], by omega, by have := YL.out; simp; omega, by go_num, by first | rfl | simp, O9, Lib.hid (by rw [EN.out]; exact RU.out.snoc RX.out), Lib.hid F9.out.1, Lib.hid F9.out.2⟩
    case measure => simp [RowKit.intOf]; omega
  ·
   obtain rfl : k = xs.length := by omega
   have j1 : ¬ (xs.length : Int) < (xs.length : Int) := by omega
   have EF : es.take xs.length = es := by rw [HX.out.1, List.take_length]
   rw [EF] at RU
   have YL := Lib.hid hyl
   clear EF hyl
   have OW := Lib.hid (ktown_any wr A2 d2 us _ RO.out.reads (RU.out.chg RC.out) (by have := YL.out; have := HN.out; omega) (fun e he => ⟨(HS.out e (List.mem_filter.1 he).1).1.2.1, (HS.out e (List.mem_filter.1 he).1).2⟩))
   go_wp2_with fail
   refine OW.out.mono ?_
   rintro r w5 ⟨A5, c5, zs, rfl, hr, he, hc⟩
   have P5 := Lib.hid (And.intro hr (And.intro he (RC.out.trans hc)))
   clear hr he hc OW; go_wp2; go_ret
   exact ⟨A5, c5, zs, rfl, P5.out.1, P5.out.2.1, P5.out.2.2⟩
set_option maxRecDepth 100000 in
set_option maxHeartbeats 8000000 in
theorem ktnear_any (w : World) (A : Option Addr) (c : Nat) (xs : List EvT) (es : List EvP) (p : List UInt8) (h : RdK evTy w A xs.length xs) (hx : EvsR w xs es) (hn : xs.length ≤ 1000) (hp : p.length ≤ 10000000) (hs : ∀ e ∈ es, EvSm e ∧ e.q.length ≤ 100000) :
  Calls Tryz.prog 25 #[.slice A xs.length c, .string (strOf p)] w fun r w' => ∃ (A' : Option Addr) (c' : Nat) (zs : List EvT), r = .returned (.slice A' zs.length c') ∧ RdK evTy w' A' zs.length zs ∧ EvsR w' zs (es.filter (fun e => nearL e.p p)) ∧ Chg [] w w' := by
 have HA := Lib.hid h
 have HX := Lib.hid hx
 have HN := Lib.hid hn
 have HS := Lib.hid hs
 have HP := Lib.hid hp
 clear hp; clear h hx hn hs
 go_enter Tryz.func25, Tryz.ntmps25
 go_wp2
 go_loopw [5, 6] (fun o i wq => ∃ (k : Nat) (A2 : Option Addr) (d2 : Nat) (us : List EvT), k ≤ xs.length ∧ us.length ≤ k ∧ i = .int .i64 k ∧ o = .slice A2 us.length d2 ∧ Hid (OwnK evTy wq A2 d2 us) ∧ Hid (EvsR w us ((es.take k).filter (fun e => nearL e.p p))) ∧ Hid (∀ a, A2 = some a → w.heap.size ≤ a.block) ∧ Hid (Chg [] w wq)) (fun _ i _ => xs.length - (RowKit.intOf i).toNat)
 case atStart => exact ⟨0, none, 0, [], Nat.zero_le _, Nat.le_refl _, rfl, rfl, OwnK.none_ _, Lib.hid (by simpa using EvsR.nil _), Lib.hid (by simp), Chg.refl _ _⟩
 case round =>
  obtain ⟨k, A2, d2, us, hk, hyl, rfl, rfl, RO, RU, RN, RC⟩ := hrel
  have j0 : (0 : Int) ≤ (k : Int) := by omega
  by_cases hlt : k < xs.length
  ·
   have j1 : (k : Int) < (xs.length : Int) := by omega
   have j3 : IntKind.i64.wrap ((k : Int) + 1) = (k : Int) + 1 := IntWalk.i64_in _ (by have := HN.out; omega)
   obtain ⟨g3, o3, eA, _⟩ := HA.out.line (by omega)
   subst eA
   obtain ⟨x, e, ex, ee, rx⟩ := HX.out.at_ hlt
   have RX := Lib.hid rx
   have EX := Lib.hid ex
   have SE : Hid (EvSm e ∧ e.q.length ≤ 100000) := Lib.hid (HS.out e (List.mem_of_getElem? ee))
   have ET : Hid ((es.take (k + 1)).filter (fun e => nearL e.p p) = (es.take k).filter (fun e => nearL e.p p) ++ [e].filter (fun e => nearL e.p p)) := Lib.hid (by rw [List.take_add_one, ee, List.filter_append]; rfl)
   have YL := Lib.hid hyl
   obtain ⟨z0, z1, z2, z3, z4, z5, z6⟩ := evCells (HA.out.chg RC.out (by simp)) ex
   clear ex ee rx hyl
   rcases hq : (nearL e.p p) with _ | _
   ·
    have EN : Hid ((es.take (k + 1)).filter (fun e => nearL e.p p) = (es.take k).filter (fun e => nearL e.p p)) := Lib.hid (by rw [ET.out, List.filter_cons_of_neg (p := fun e => nearL e.p p) (a := e) (l := []) (by show ¬ (nearL e.p p) = true; rw [hq]; decide)]; simp)
    clear ET
    have CC := Lib.hid (qhnear_any wr e.p p (by have := SE.out.1.1; omega) HP.out)
    rw [hq] at CC
    rw [RX.out.p] at z2
    clear hq; go_wp2_with fail; clear z0 z1 z2 z3 z4 z5 z6
    refine CC.out.mono ?_
    rintro r w4 ⟨rfl, hc⟩
    replace RO := Lib.hid (RO.out.chg hc (by simp))
    replace RC := Lib.hid (RC.out.trans hc)
    clear hc CC
    go_upto_region 4 with fail
    have z0 := True.intro
    have z1 := True.intro
    have z2 := True.intro
    have z3 := True.intro
    have z4 := True.intro
    have z5 := True.intro
    have z6 := True.intro
    clear z0 z1 z2 z3 z4 z5 z6; go_wp2; go_round
    case rel => exact ⟨k + 1, A2, d2, us, by omega, by have := YL.out; omega, by go_num, by first | rfl | simp, RO, Lib.hid (by rw [EN.out]; exact RU.out), RN, RC⟩
    case measure => simp [RowKit.intOf]; omega
   ·
    have EN : Hid ((es.take (k + 1)).filter (fun e => nearL e.p p) = (es.take k).filter (fun e => nearL e.p p) ++ [e]) := Lib.hid (by rw [ET.out, List.filter_cons_of_pos (p := fun e => nearL e.p p) (a := e) (l := []) hq]; rfl)
    clear ET
    have CC := Lib.hid (qhnear_any wr e.p p (by have := SE.out.1.1; omega) HP.out)
    rw [hq] at CC
    rw [RX.out.p] at z2
    clear hq; go_wp2_with fail; clear z0 z1 z2 z3 z4 z5 z6
    refine CC.out.mono ?_
    rintro r w4 ⟨rfl, hc⟩
    replace RO := Lib.hid (RO.out.chg hc (by simp))
    replace RC := Lib.hid (RC.out.trans hc)
    clear hc CC
    go_upto_region 6 with fail
    have z0 := True.intro
    have z1 := True.intro
    have z2 := True.intro
    have z3 := True.intro
    have z4 := True.intro
    have z5 := True.intro
    have z6 := True.intro
    clear z0 z1 z2 z3 z4 z5 z6
    obtain ⟨z0, z1, z2, z3, z4, z5, z6⟩ := evCells (HA.out.chg RC.out (by simp)) EX.out
    obtain ⟨v1, hw, cn, bn⟩ := news1 w4 (.cells #[.int .i64 x.n, .int .i64 x.s, .string x.p, .int .i64 x.k, .int .i64 x.m, .slice x.A x.l x.c, .slice x.B x.bl x.bc] 30)
    have WN := Lib.hid hw
    have XR := Lib.hid (rd_oneEc bn)
    replace RO := Lib.hid (RO.out.chg cn (by simp))
    replace RC := Lib.hid (RC.out.trans cn)
    have N4 : Hid ((us.length + 1) * 400 ≤ 140737488355327) := Lib.hid (by have := YL.out; have := HN.out; omega)
    clear hw cn bn
    go_wp2_with (at_builtin; rw [← WN.out]; refine wpList_appK (R := evTy) rfl (.tmp 20) (.tmp 25) rfl rfl (A := A2) (n := us.length) (m := 1) (c := d2) (d := 1) (xs := us) (ys := [x]) RO.out rfl rfl XR.out N4.out ?_; intro A9 c9 w9 o9 g9 e9)
    clear z0 z1 z2 z3 z4 z5 z6 WN XR N4
    have O9 := Lib.hid o9
    have F9 := Lib.hid (fresh_appE RN.out RC.out g9 e9)
    clear o9 g9 e9; go_wp2; go_round
    case rel => exact ⟨k + 1, A9, c9, us ++ [x], by omega, by have := YL.out; simp; omega, by go_num, by first | rfl | simp, O9, Lib.hid (by rw [EN.out]; exact RU.out.snoc RX.out), Lib.hid F9.out.1, Lib.hid F9.out.2⟩
    case measure => simp [RowKit.intOf]; omega
  ·
   obtain rfl : k = xs.length := by omega
   have j1 : ¬ (xs.length : Int) < (xs.length : Int) := by omega
   have EF : es.take xs.length = es := by rw [HX.out.1, List.take_length]
   rw [EF] at RU
   have YL := Lib.hid hyl
   clear EF hyl
   have OW := Lib.hid (ktown_any wr A2 d2 us _ RO.out.reads (RU.out.chg RC.out) (by have := YL.out; have := HN.out; omega) (fun e he => ⟨(HS.out e (List.mem_filter.1 he).1).1.2.1, (HS.out e (List.mem_filter.1 he).1).2⟩))
   go_wp2_with fail
   refine OW.out.mono ?_
   rintro r w5 ⟨A5, c5, zs, rfl, hr, he, hc⟩
   have P5 := Lib.hid (And.intro hr (And.intro he (RC.out.trans hc)))
   clear hr he hc OW; go_wp2; go_ret
   exact ⟨A5, c5, zs, rfl, P5.out.1, P5.out.2.1, P5.out.2.2⟩
set_option maxRecDepth 100000 in
set_option maxHeartbeats 8000000 in
theorem ktmissing_any (w : World) (A : Option Addr) (c : Nat) (xs : List EvT) (es : List EvP) (K : Option Addr) (kc : Nat) (ks : List Sp) (h : RdK evTy w A xs.length xs) (hx : EvsR w xs es) (hn : xs.length ≤ 1000) (hk : RdK spanTy w K ks.length ks) (hkn : ks.length ≤ 140737488351232) (hs : ∀ e ∈ es, EvSm e ∧ e.q.length ≤ 100000) :
  Calls Tryz.prog 26 #[.slice A xs.length c, .slice K ks.length kc] w fun r w' => ∃ (A' : Option Addr) (c' : Nat) (zs : List EvT), r = .returned (.slice A' zs.length c') ∧ RdK evTy w' A' zs.length zs ∧ EvsR w' zs (es.filter (fun e => !hasE ks e.n e.s)) ∧ Chg [] w w' := by
 have HA := Lib.hid h
 have HX := Lib.hid hx
 have HN := Lib.hid hn
 have HS := Lib.hid hs
 have HK := Lib.hid hk
 have HKN := Lib.hid hkn
 clear hk hkn; clear h hx hn hs
 go_enter Tryz.func26, Tryz.ntmps26
 go_wp2
 go_loopw [5, 6] (fun o i wq => ∃ (k : Nat) (A2 : Option Addr) (d2 : Nat) (us : List EvT), k ≤ xs.length ∧ us.length ≤ k ∧ i = .int .i64 k ∧ o = .slice A2 us.length d2 ∧ Hid (OwnK evTy wq A2 d2 us) ∧ Hid (EvsR w us ((es.take k).filter (fun e => !hasE ks e.n e.s))) ∧ Hid (∀ a, A2 = some a → w.heap.size ≤ a.block) ∧ Hid (Chg [] w wq)) (fun _ i _ => xs.length - (RowKit.intOf i).toNat)
 case atStart => exact ⟨0, none, 0, [], Nat.zero_le _, Nat.le_refl _, rfl, rfl, OwnK.none_ _, Lib.hid (by simpa using EvsR.nil _), Lib.hid (by simp), Chg.refl _ _⟩
 case round =>
  obtain ⟨k, A2, d2, us, hk, hyl, rfl, rfl, RO, RU, RN, RC⟩ := hrel
  have j0 : (0 : Int) ≤ (k : Int) := by omega
  by_cases hlt : k < xs.length
  ·
   have j1 : (k : Int) < (xs.length : Int) := by omega
   have j3 : IntKind.i64.wrap ((k : Int) + 1) = (k : Int) + 1 := IntWalk.i64_in _ (by have := HN.out; omega)
   obtain ⟨g3, o3, eA, _⟩ := HA.out.line (by omega)
   subst eA
   obtain ⟨x, e, ex, ee, rx⟩ := HX.out.at_ hlt
   have RX := Lib.hid rx
   have EX := Lib.hid ex
   have SE : Hid (EvSm e ∧ e.q.length ≤ 100000) := Lib.hid (HS.out e (List.mem_of_getElem? ee))
   have ET : Hid ((es.take (k + 1)).filter (fun e => !hasE ks e.n e.s) = (es.take k).filter (fun e => !hasE ks e.n e.s) ++ [e].filter (fun e => !hasE ks e.n e.s)) := Lib.hid (by rw [List.take_add_one, ee, List.filter_append]; rfl)
   have YL := Lib.hid hyl
   obtain ⟨z0, z1, z2, z3, z4, z5, z6⟩ := evCells (HA.out.chg RC.out (by simp)) ex
   clear ex ee rx hyl
   rcases hq : (!hasE ks e.n e.s) with _ | _
   ·
    have EN : Hid ((es.take (k + 1)).filter (fun e => !hasE ks e.n e.s) = (es.take k).filter (fun e => !hasE ks e.n e.s)) := Lib.hid (by rw [ET.out, List.filter_cons_of_neg (p := fun e => !hasE ks e.n e.s) (a := e) (l := []) (by show ¬ (!hasE ks e.n e.s) = true; rw [hq]; decide)]; simp)
    clear ET
    have CC := Lib.hid (qhas_any wr K kc ks e.n e.s (HK.out.chg RC.out (by simp)) HKN.out)
    have hq2 : hasE ks e.n e.s = true := by simpa using hq
    rw [hq2] at CC
    rw [RX.out.n] at z0
    rw [RX.out.s] at z1
    clear hq2; clear hq; go_wp2_with fail; clear z0 z1 z2 z3 z4 z5 z6
    refine CC.out.mono ?_
    rintro r w4 ⟨rfl, hc⟩
    replace RO := Lib.hid (RO.out.chg hc (by simp))
    replace RC := Lib.hid (RC.out.trans hc)
    clear hc CC
    go_upto_region 4 with fail
    have z0 := True.intro
    have z1 := True.intro
    have z2 := True.intro
    have z3 := True.intro
    have z4 := True.intro
    have z5 := True.intro
    have z6 := True.intro
    clear z0 z1 z2 z3 z4 z5 z6; go_wp2; go_round
    case rel => exact ⟨k + 1, A2, d2, us, by omega, by have := YL.out; omega, by go_num, by first | rfl | simp, RO, Lib.hid (by rw [EN.out]; exact RU.out), RN, RC⟩
    case measure => simp [RowKit.intOf]; omega
   ·
    have EN : Hid ((es.take (k + 1)).filter (fun e => !hasE ks e.n e.s) = (es.take k).filter (fun e => !hasE ks e.n e.s) ++ [e]) := Lib.hid (by rw [ET.out, List.filter_cons_of_pos (p := fun e => !hasE ks e.n e.s) (a := e) (l := []) hq]; rfl)
    clear ET
    have CC := Lib.hid (qhas_any wr K kc ks e.n e.s (HK.out.chg RC.out (by simp)) HKN.out)
    have hq2 : hasE ks e.n e.s = false := by simpa using hq
    rw [hq2] at CC
    rw [RX.out.n] at z0
    rw [RX.out.s] at z1
    clear hq2; clear hq; go_wp2_with fail; clear z0 z1 z2 z3 z4 z5 z6
    refine CC.out.mono ?_
    rintro r w4 ⟨rfl, hc⟩
    replace RO := Lib.hid (RO.out.chg hc (by simp))
    replace RC := Lib.hid (RC.out.trans hc)
    clear hc CC
    go_upto_region 6 with fail
    have z0 := True.intro
    have z1 := True.intro
    have z2 := True.intro
    have z3 := True.intro
    have z4 := True.intro
    have z5 := True.intro
    have z6 := True.intro
    clear z0 z1 z2 z3 z4 z5 z6
    obtain ⟨z0, z1, z2, z3, z4, z5, z6⟩ := evCells (HA.out.chg RC.out (by simp)) EX.out
    obtain ⟨v1, hw, cn, bn⟩ := news1 w4 (.cells #[.int .i64 x.n, .int .i64 x.s, .string x.p, .int .i64 x.k, .int .i64 x.m, .slice x.A x.l x.c, .slice x.B x.bl x.bc] 30)
    have WN := Lib.hid hw
    have XR := Lib.hid (rd_oneEc bn)
    replace RO := Lib.hid (RO.out.chg cn (by simp))
    replace RC := Lib.hid (RC.out.trans cn)
    have N4 : Hid ((us.length + 1) * 400 ≤ 140737488355327) := Lib.hid (by have := YL.out; have := HN.out; omega)
    clear hw cn bn
    go_wp2_with (at_builtin; rw [← WN.out]; refine wpList_appK (R := evTy) rfl (.tmp 21) (.tmp 26) rfl rfl (A := A2) (n := us.length) (m := 1) (c := d2) (d := 1) (xs := us) (ys := [x]) RO.out rfl rfl XR.out N4.out ?_; intro A9 c9 w9 o9 g9 e9)
    clear z0 z1 z2 z3 z4 z5 z6 WN XR N4
    have O9 := Lib.hid o9
    have F9 := Lib.hid (fresh_appE RN.out RC.out g9 e9)
    clear o9 g9 e9; go_wp2; go_round
    case rel => exact ⟨k + 1, A9, c9, us ++ [x], by omega, by have := YL.out; simp; omega, by go_num, by first | rfl | simp, O9, Lib.hid (by rw [EN.out]; exact RU.out.snoc RX.out), Lib.hid F9.out.1, Lib.hid F9.out.2⟩
    case measure => simp [RowKit.intOf]; omega
  ·
   obtain rfl : k = xs.length := by omega
   have j1 : ¬ (xs.length : Int) < (xs.length : Int) := by omega
   have EF : es.take xs.length = es := by rw [HX.out.1, List.take_length]
   rw [EF] at RU
   have YL := Lib.hid hyl
   clear EF hyl
   have OW := Lib.hid (ktown_any wr A2 d2 us _ RO.out.reads (RU.out.chg RC.out) (by have := YL.out; have := HN.out; omega) (fun e he => ⟨(HS.out e (List.mem_filter.1 he).1).1.2.1, (HS.out e (List.mem_filter.1 he).1).2⟩))
   go_wp2_with fail
   refine OW.out.mono ?_
   rintro r w5 ⟨A5, c5, zs, rfl, hr, he, hc⟩
   have P5 := Lib.hid (And.intro hr (And.intro he (RC.out.trans hc)))
   clear hr he hc OW; go_wp2; go_ret
   exact ⟨A5, c5, zs, rfl, P5.out.1, P5.out.2.1, P5.out.2.2⟩
end
section
open Go.RowKit

theorem nb_char (n k : Nat) (hk : k ≤ 8) (h0 : n < 256 ^ k) (h1 : k = 0 ∨ 256 ^ (k - 1) ≤ n) : k = nb n := by
 have e : ∀ j, 256 ^ j = 2 ^ (8 * j) := fun j => by rw [Nat.pow_mul]
 have h2 := Lib.bitLen_le n (8 * k) (by omega) (by rw [← e]; exact h0)
 unfold nb
 rcases h1 with rfl | h1
 ·
  omega
 ·
  by_cases hk0 : k = 0
  ·
   subst hk0; omega
  ·
   rw [e] at h1
   have hn : n < 2 ^ 64 := by
    have : 256 ^ k ≤ 256 ^ 8 := Nat.pow_le_pow_right (by omega) hk
    have e8 : 256 ^ 8 = 2 ^ 64 := by decide
    omega
   have h3 := Lib.bitLen_shift (8 * (k - 1)) n h1 hn
   have h4 : Lib.bitLen (n / 2 ^ (8 * (k - 1))) ≠ 0 := by
    intro h
    have hp : 1 ≤ n / 2 ^ (8 * (k - 1)) := (Nat.le_div_iff_mul_le (Nat.two_pow_pos _)).2 (by omega)
    have := Lib.bitLen_shift 0 (n / 2 ^ (8 * (k - 1))) (by simpa using hp) (by have := Nat.div_le_self n (2 ^ (8 * (k - 1))); omega)
    have h5 : Lib.bitLen (n / 2 ^ (8 * (k - 1))) = 1 + Lib.bitLen (n / 2 ^ (8 * (k - 1)) / 2) := Lib.bitLen_half _ (by omega) (by have := Nat.div_le_self n (2 ^ (8 * (k - 1))); omega)
    omega
   omega

theorem OwnB.one (w : World) (c : UInt8) (x : Int) (hx : x = (c.toNat : Int)) : OwnB (w.alloc (.cells #[.int .u8 x] 5)) (some ⟨w.heap.size, 0, none⟩) 1 [c] := by
 subst hx
 exact .of (full := [c]) (heap_alloc_new w _) (by simp) (by simp [maxLen]) rfl (by simp)

theorem ahead_app {w wr w1 : World} {A' : Option Addr} {c' : Nat} {x : Value} {zs : List UInt8} (own1 : OwnB w1 A' c' zs) (hc : Chg [] w wr) (hg1 : (wr.alloc (.cells #[x] 5)).grownBy w1 (Option.map (·.block) (some (⟨wr.heap.size, 0, none⟩ : Addr))))
  (hA1 : A' = some ⟨wr.heap.size, 0, none⟩ ∨ A' = some ⟨(wr.alloc (.cells #[x] 5)).heap.size, 0, none⟩) : Fresh w w1 A' c' zs := by
 have hs := hc.size
 refine ⟨own1, ?_, (hc.alloc _).grown hg1 (by simp; omega)⟩
 rintro a rfl
 rcases hA1 with h | h <;> cases h <;> simp <;> omega

def up (n k : Nat) : Nat := n / 256 ^ k
theorem up_zero (n : Nat) : up n 0 = n := by simp [up]
theorem up_succ (n k : Nat) : ((up n k : Nat) : Int) / 256 = ((up n (k + 1) : Nat) : Int) := by
 have : up n (k + 1) = up n k / 256 := by unfold up; rw [Nat.pow_succ, Nat.div_div_eq_div_mul]
 rw [this]; omega
theorem up_le (n k : Nat) : up n k ≤ n := Nat.div_le_self _ _
theorem up_pos {n k : Nat} (h : 0 < up n k) : 256 ^ k ≤ n := by
 unfold up at h
 rcases Nat.lt_or_ge n (256 ^ k) with h1 | h1
 ·
  rw [Nat.div_eq_of_lt h1] at h; omega
 ·
  exact h1
theorem up_none {n k : Nat} (h : ¬ 0 < up n k) : n < 256 ^ k := by
 unfold up at h
 rcases Nat.lt_or_ge n (256 ^ k) with h1 | h1
 ·
  exact h1
 ·
  exact absurd ((Nat.le_div_iff_mul_le (Nat.two_pow_pos (8 * k) |> fun h => by rwa [Nat.pow_mul] at h)).2 (by omega)) (by omega : ¬ 1 ≤ n / 256 ^ k)

set_option maxHeartbeats 400000 in
theorem form_any (w : World) (x : Int) (h0 : 0 ≤ x) (h1 : x ≤ 9223372036854775807) :
  Calls Tryz.prog 194 #[.int .i64 x] w fun r w' => ∃ A c, r = .returned (.slice A (1 + nb x.toNat) c) ∧ Fresh w w' A c (enc x.toNat) := by
 obtain ⟨n, rfl⟩ := Int.eq_ofNat_of_zero_le h0
 have hb := nb_le n (by omega)
 go_enter Tryz.func194, Tryz.ntmps194
 go_wp2
 go_loopw [0, 3] (fun v s wr => ∃ (k : Nat) (A : Option Addr) (c : Nat), k ≤ 8 ∧ v = .int .i64 (up n k : Int) ∧ s = .slice A k c ∧ Fresh w wr A c (be k n) ∧ (k = 0 ∨ 256 ^ (k - 1) ≤ n)) (fun v _ _ => (intOf v).toNat)
 case atStart => exact ⟨0, none, 0, by omega, by rw [up_zero], rfl, ⟨OwnB.none_ _, by simp, Chg.refl _ _⟩, .inl rfl⟩
 case round =>
  obtain ⟨k, A, c, hk, rfl, rfl, hF, hlow⟩ := hrel
  obtain ⟨f1, f2, f3⟩ := hF
  have F2 := Lib.hid f2
  have HW := Lib.hid hlow
  clear f2 hlow
  by_cases hz : 0 < up n k
  ·
   have hk8 : k < 8 := by
    rcases Nat.lt_or_ge k 8 with h | h
    ·
     exact h
    ·
     have e8 : k = 8 := by omega
     subst e8
     have := up_pos hz
     have e8 : 256 ^ 8 = 18446744073709551616 := by decide
     omega
   have hle := up_le n k
   have hs := up_succ n k
   have Hs := Lib.hid hs
   clear hs
   go_wp2_with (at_builtin; refine wpList_app rfl _ _ rfl rfl (OwnB.one wr (UInt8.ofNat (up n k)) _ (by rw [UInt8.toNat_ofNat']; omega)) rfl rfl (by have := (f1.reads).chg ((Chg.refl [] wr).alloc (.cells #[.int .u8 (((up n k : Nat) : Int) % 256)] 5)) (by simp); rw [be_len] at this; exact this) (by omega) ?_; intro A' c' w1 own1 hg1 hA1)
   have Hh := Lib.hid (ahead_app own1 f3 hg1 hA1)
   clear own1 hg1 hA1
   go_roundw
   case rel => exact ⟨k + 1, A', c', by omega, by rw [Hs.out], by rw [Nat.add_comm], ⟨Hh.out.1, Hh.out.2.1, Hh.out.2.2⟩, .inr (by simpa using up_pos hz)⟩
   case measure =>
    have h := Hs.out
    simp only [intOf]
    omega
  ·
   go_wp2_with (at_builtin; refine wpList_app rfl _ _ rfl rfl (OwnB.one wr (UInt8.ofNat k) _ (u8_of _ _ rfl (by omega))) rfl rfl (by have := (f1.reads).chg ((Chg.refl [] wr).alloc (.cells #[.int .u8 (k : Int)] 5)) (by simp); rw [be_len] at this; exact this) (by omega) ?_; intro A' c' w1 own1 hg1 hA1)
   go_ret
   have hk' : k = nb n := nb_char n k hk (up_none hz) HW.out
   subst hk'
   exact ⟨A', c', rfl, ahead_app own1 f3 hg1 hA1⟩
end
section
open Go.RowKit

def VWr (w : World) (b g : Nat) (xs : List UInt8) (e : Int) : Prop :=
 ∃ A c, w.heap[b]? = some (.cells #[.slice A xs.length c, .int .i64 e] 151 (0, 0)) ∧ OwnB w A c xs ∧ (A = none ∧ g = b ∨ A = some ⟨g, 0, none⟩)
theorem VWr.chg {S : List Nat} {w w' : World} {b g : Nat} {xs : List UInt8} {e : Int} (h : VWr w b g xs e) (hc : Chg S w w') (hb : b ∉ S) (hg : g ∉ S) : VWr w' b g xs e := by
 obtain ⟨A, c, h1, h2, h3⟩ := h
 refine ⟨A, c, hc.at_ h1 hb, h2.chg hc ?_, h3⟩
 rintro a rfl
 rcases h3 with ⟨h3, _⟩ | h3
 ·
  cases h3
 ·
  cases h3; exact hg
def VBetween (w wr : World) (b g : Nat) (xs : List UInt8) (e : Int) : Prop := ∃ g', VWr wr b g' xs e ∧ Chg [b, g] w wr ∧ (g' = g ∨ w.heap.size ≤ g')
theorem VBetween.refl {w : World} {b g : Nat} {xs : List UInt8} {e : Int} (h : VWr w b g xs e) : VBetween w w b g xs e := ⟨g, h, Chg.refl _ _, .inl rfl⟩
theorem VBetween.later {w w1 w2 : World} {b g : Nat} {xs : List UInt8} {e : Int} (hc : Chg [] w w1) (h : VBetween w1 w2 b g xs e) : VBetween w w2 b g xs e := by
 obtain ⟨g', h1, h2, h3⟩ := h
 have := hc.size
 refine ⟨g', h1, (hc.mono (by simp)).trans h2, ?_⟩
 rcases h3 with h3 | h3
 ·
  exact .inl h3
 ·
  right; omega

set_option maxHeartbeats 400000 in
theorem vput_had (w : World) (b g : Nat) (xs : List UInt8) (e e' : Int) (B : Option Addr) (m d : Nat) (h : VWr w b g xs e) (he : (e != 0) = true) :
  Calls Tryz.prog 193 #[.pointer (some ⟨b, 0, none⟩), .slice B m d, .int .i64 e'] w fun r w' => r = .returned (.tuple #[]) ∧ w = w' := by
 obtain ⟨A, c, h1, _, _⟩ := h
 have h0 := cell_of h1 1
 simp only [List.getElem?_toArray, List.getElem?_cons_zero, List.getElem?_cons_succ] at h0
 have H := Lib.hid h1
 clear h1
 go_enter Tryz.func193, Tryz.ntmps193
 go_wp2
 refine bodyPost_ret (results_none rfl _ _ _) rfl ?_
 exact ⟨rfl, rfl⟩

theorem verr_fin {w : World} {b g : Nat} {xs : List UInt8} {A : Option Addr} {c : Nat} (e0 e : Int) (h1 : w.heap[b]? = some (.cells #[.slice A xs.length c, .int .i64 e0] 151 (0, 0))) (h2 : OwnB w A c xs) (h3 : A = none ∧ g = b ∨ A = some ⟨g, 0, none⟩) :
  VBetween w (w.setCell ⟨b, 1, none⟩ (.int .i64 e)) b g xs e := by
 have q := heap_setCell_same w b 1 _ _ (.int .i64 e) h1
 have hne := h2.ne h1 (by decide)
 refine ⟨g, ⟨A, c, by simpa using q, h2.keep fun g o eA ho => ?_, h3⟩, (Chg.refl _ _).setCell (by simp) _, .inl rfl⟩
 rw [Below.heap_setCell _ _ _ _ (by have := hne _ eA; exact this)]; exact ho

set_option maxHeartbeats 400000 in
theorem vput_err (w : World) (b g : Nat) (xs : List UInt8) (e' : Int) (B : Option Addr) (m d : Nat) (h : VWr w b g xs 0) (he : (e' == 0) = false) :
  Calls Tryz.prog 193 #[.pointer (some ⟨b, 0, none⟩), .slice B m d, .int .i64 e'] w fun r w' => r = .returned (.tuple #[]) ∧ VBetween w w' b g xs e' := by
 obtain ⟨A, c, h1, h2, h3⟩ := h
 have h0 := cell_of h1 1
 have f0 := free_of h1 1
 simp only [List.getElem?_toArray, List.getElem?_cons_zero, List.getElem?_cons_succ] at h0
 have H := Lib.hid h1
 have H3 := Lib.hid h3
 clear h1 h3
 go_enter Tryz.func193, Tryz.ntmps193
 go_wp2
 go_end0
 exact ⟨rfl, verr_fin _ _ H.out h2 H3.out⟩
set_option maxHeartbeats 400000 in
theorem vput_long (w : World) (b g : Nat) (xs : List UInt8) (B : Option Addr) (m d : Nat) (h : VWr w b g xs 0) (hx : xs.length ≤ 1048576) (hm : m ≤ 140737488355300) (hl : 1048576 < xs.length + m) :
  Calls Tryz.prog 193 #[.pointer (some ⟨b, 0, none⟩), .slice B m d, .int .i64 0] w fun r w' => r = .returned (.tuple #[]) ∧ VBetween w w' b g xs 3 := by
 obtain ⟨A, c, h1, h2, h3⟩ := h
 have h0 := cell_of h1 1
 have h4 := cell_of h1 0
 have f0 := free_of h1 1
 simp only [List.getElem?_toArray, List.getElem?_cons_zero, List.getElem?_cons_succ] at h0 h4
 have H := Lib.hid h1
 have H3 := Lib.hid h3
 clear h1 h3
 go_enter Tryz.func193, Tryz.ntmps193
 go_wp2
 go_end0
 exact ⟨rfl, verr_fin _ _ H.out h2 H3.out⟩

theorem vwr_put {w w1 : World} {b g : Nat} {xs zs : List UInt8} {e : Int} {A A' : Option Addr} {c c' n : Nat} (h1 : w.heap[b]? = some (.cells #[.slice A xs.length c, .int .i64 e] 151 (0, 0))) (h2 : OwnB w A c xs)
    (h3 : A = none ∧ g = b ∨ A = some ⟨g, 0, none⟩) (own1 : OwnB w1 A' c' zs) (hg1 : w.grownBy w1 (A.map (·.block))) (hA1 : A' = A ∨ A' = some ⟨w.heap.size, 0, none⟩) (hn : n = zs.length) :
    VBetween w (w1.setCell ⟨b, 0, none⟩ (.slice A' n c')) b g zs e := by
  subst hn
  have hne := h2.ne h1 (by decide)
  have q1 := grown_at hg1 h1 hne
  have q2 := heap_setCell_same w1 b 0 _ _ (.slice A' zs.length c') q1
  have hne' := own1.ne q1 (by decide)
  have own2 : OwnB (w1.setCell ⟨b, 0, none⟩ (.slice A' zs.length c')) A' c' zs := own1.keep fun g o eA ho => by
    rw [Below.heap_setCell _ _ _ _ (by have := hne' _ eA; exact this)]; exact ho
  have hc : Chg [b, g] w (w1.setCell ⟨b, 0, none⟩ (.slice A' zs.length c')) :=
    ((Chg.refl _ _).grown hg1 (fun k hk => by
      rcases h3 with ⟨rfl, _⟩ | rfl
      · cases hk
      · simp at hk; subst hk; simp)).setCell (by simp) _
  rcases hA1 with rfl | rfl
  · exact ⟨g, ⟨A', c', by simpa using q2, own2, h3⟩, hc, .inl rfl⟩
  · exact ⟨w.heap.size, ⟨_, c', by simpa using q2, own2, .inr rfl⟩, hc, .inr (Nat.le_refl _)⟩

theorem set_same {w : World} {b : Nat} {cs : Array Value} {t : TypeId} {j : Nat} {v : Value} (h : w.heap[b]? = some (.cells cs t (0, 0))) (hj : cs[j]? = some v) : w.setCell ⟨b, j, none⟩ v = w := by
 have : (w.setCell ⟨b, j, none⟩ v).heap = w.heap := by
  apply Array.ext_getElem?
  intro i
  by_cases hi : i = b
  ·
   subst hi
   rw [heap_setCell_same w i j _ _ v h, h]
   congr 2
   apply Array.ext_getElem?
   intro k
   rw [Array.getElem?_setIfInBounds]
   split
   ·
    rename_i e; subst e
    obtain ⟨h5, h6⟩ := Array.getElem?_eq_some_iff.1 hj
    simp [h5, h6]
   ·
    rfl
  ·
   exact Below.heap_setCell _ _ _ _ hi
 unfold World.setCell at this ⊢
 simp only at this
 rw [this]

set_option maxHeartbeats 400000 in
theorem vput_fine (w : World) (b g : Nat) (xs : List UInt8) (B : Option Addr) (m d : Nat) (ys : List UInt8) (h : VWr w b g xs 0) (hr : Bs w B m ys) (hl : xs.length + m ≤ 1048576) :
  Calls Tryz.prog 193 #[.pointer (some ⟨b, 0, none⟩), .slice B m d, .int .i64 0] w fun r w' => r = .returned (.tuple #[]) ∧ VBetween w w' b g (xs ++ ys) 0 := by
 obtain ⟨A, c, h1, h2, h3⟩ := h
 have hs : w.setCell ⟨b, 1, none⟩ (.int .i64 0) = w := set_same h1 rfl
 have hne := h2.ne h1 (by decide)
 have h0 := cell_of h1 1
 have h4 := cell_of h1 0
 have f0 := free_of h1 1
 simp only [List.getElem?_toArray, List.getElem?_cons_zero, List.getElem?_cons_succ] at h0 h4
 have H := Lib.hid h1
 have H3 := Lib.hid h3
 clear h1 h3
 go_enter Tryz.func193, Tryz.ntmps193
 go_wp2_with (at_builtin; refine wpList_app rfl _ _ rfl rfl h2 rfl rfl hr (by omega) ?_; intro A' c' w1 own1 hg1 hA1; have q1 := grown_at hg1 H.out hne; have Q1 := Lib.hid q1; have q2 := cell_of q1 0; have q3 := free_of q1 0; simp only [List.getElem?_toArray, List.getElem?_cons_zero] at q2; clear q1)
 go_end0
 exact ⟨rfl, vwr_put H.out h2 H3.out own1 hg1 hA1 (by simp [hr.len])⟩

theorem nb_fits (n : Nat) (h : n ≤ 9223372036854775807) : nb n ≤ 8 := nb_le n (by omega)

set_option maxHeartbeats 400000 in
theorem vnum_any (w : World) (b g : Nat) (xs : List UInt8) (e x : Int) (h : VWr w b g xs e) (hlen : xs.length ≤ 1048576) (hx : -9223372036854775808 ≤ x) (hx2 : x ≤ 9223372036854775807) :
  Calls Tryz.prog 144 #[.pointer (some ⟨b, 0, none⟩), .int .i64 x] w fun r w' => r = .returned (.tuple #[]) ∧ VBetween w w' b g (wNum xs e x).1 (wNum xs e x).2 := by
 by_cases h1 : x < 0 ∨ 4611686018427387903 < x
 ·
  have hp : Calls Tryz.prog 193 #[.pointer (some ⟨b, 0, none⟩), .slice none 0 0, .int .i64 5] w fun r w' => r = .returned (.tuple #[]) ∧ VBetween w w' b g (wNum xs e x).1 (wNum xs e x).2 := by
   unfold wNum
   by_cases he : e = 0
   ·
    subst he
    simp only [ne_eq, not_true_eq_false, if_false, if_pos h1]
    exact vput_err w b g xs 5 none 0 0 h rfl
   ·
    simp only [ne_eq, he, not_false_eq_true, if_true]
    exact (vput_had w b g xs e 5 none 0 0 h (by simpa using he)).mono fun r w' ⟨h1, h2⟩ => ⟨h1, h2 ▸ VBetween.refl h⟩
  have HP := Lib.hid hp
  clear hp
  rcases h1 with h1 | h1
  all_goals
   go_enter Tryz.func144, Tryz.ntmps144
   go_wp2_with (go_at_call 193; refine HP.out.mono ?_; rintro r w1 ⟨rfl, hB⟩)
   refine bodyPost_ret (results_none rfl _ _ _) rfl ?_
   exact ⟨rfl, hB⟩
 ·
  have h2 : 0 ≤ x := by omega
  have h3 : x ≤ 4611686018427387903 := by omega
  have hb := nb_fits x.toNat (by omega)
  have hp : ∀ w1 A c, Fresh w w1 A c (enc x.toNat) → Calls Tryz.prog 193 #[.pointer (some ⟨b, 0, none⟩), .slice A (1 + nb x.toNat) c, .int .i64 0] w1 fun r w' => r = .returned (.tuple #[]) ∧ VBetween w1 w' b g (wNum xs e x).1 (wNum xs e x).2 := by
   intro w1 A c hF
   have hv := h.chg hF.2.2 (by simp) (by simp)
   have hr := hF.1.reads
   rw [enc_len] at hr
   unfold wNum
   by_cases he : e = 0
   ·
    subst he
    by_cases h4 : 1048576 < 1 + nb x.toNat + xs.length
    ·
     simp only [ne_eq, not_true_eq_false, if_false, if_neg h1, if_pos h4]
     exact vput_long w1 b g xs A _ c hv hlen (by omega) (by omega)
    ·
     simp only [ne_eq, not_true_eq_false, if_false, if_neg h1, if_neg h4]
     exact vput_fine w1 b g xs A _ c _ hv hr (by omega)
   ·
    simp only [ne_eq, he, not_false_eq_true, if_true]
    exact (vput_had w1 b g xs e 0 A _ c hv (by simpa using he)).mono fun r w' ⟨h1, h2⟩ => ⟨h1, h2 ▸ VBetween.refl hv⟩
  have HP := Lib.hid hp
  clear hp h1
  go_enter Tryz.func144, Tryz.ntmps144
  go_wp2_with (first
   | (go_at_call 194; refine (form_any _ x h2 (by omega)).mono ?_; rintro r w1 ⟨A, c, rfl, hF⟩; have HF := Lib.hid hF; clear hF)
   | (go_at_call 193; refine (HP.out _ _ _ HF.out).mono ?_; rintro r w2 ⟨rfl, hB⟩))
  go_end0
  exact ⟨rfl, VBetween.later HF.out.2.2 hB⟩
end
section
open Go.RowKit

theorem fresh_grown {w w1 w2 : World} {A A' : Option Addr} {c c' : Nat} {xs zs : List UInt8} (hF : Fresh w w1 A c xs) (own : OwnB w2 A' c' zs) (hg : w1.grownBy w2 (A.map (·.block))) (hA : A' = A ∨ A' = some ⟨w1.heap.size, 0, none⟩) : Fresh w w2 A' c' zs := by
 have hs := hF.2.2.size
 refine ⟨own, ?_, hF.2.2.grown hg (fun k hk => ?_)⟩
 ·
  rintro a rfl
  rcases hA with h | h
  ·
   exact hF.2.1 _ h.symm
  ·
   cases h; exact hs
 ·
  cases A with
  | none => cases hk
  | some a => simp at hk; subst hk; exact .inr (hF.2.1 _ rfl)

set_option maxHeartbeats 400000 in
theorem vraw_any (w : World) (b g : Nat) (xs : List UInt8) (e : Int) (B : Option Addr) (m d : Nat) (ys : List UInt8) (h : VWr w b g xs e) (hlen : xs.length ≤ 1048576) (hm : m ≤ 140737488351232) (hr : Bs w B m ys) :
  Calls Tryz.prog 146 #[.pointer (some ⟨b, 0, none⟩), .slice B m d] w fun r w' => r = .returned (.tuple #[]) ∧ VBetween w w' b g (wRaw xs e ys).1 (wRaw xs e ys).2 := by
 have hl := hr.len
 subst hl
 have hb := nb_fits ys.length (by omega)
 have hp : ∀ w1 A c, Fresh w w1 A c (enc (ys.length : Int).toNat ++ ys) → Calls Tryz.prog 193 #[.pointer (some ⟨b, 0, none⟩), .slice A (1 + nb ys.length + ys.length) c, .int .i64 0] w1 fun r w' => r = .returned (.tuple #[]) ∧ VBetween w1 w' b g (wRaw xs e ys).1 (wRaw xs e ys).2 := by
  intro w1 A c hF
  have hv := h.chg hF.2.2 (by simp) (by simp)
  have hr := hF.1.reads
  rw [List.length_append, enc_len, Int.toNat_natCast] at hr
  unfold wRaw
  by_cases he : e = 0
  ·
   subst he
   by_cases h4 : 1048576 < 1 + nb ys.length + ys.length + xs.length
   ·
    simp only [ne_eq, not_true_eq_false, if_false, if_pos h4]
    exact vput_long w1 b g xs A _ c hv hlen (by omega) (by omega)
   ·
    simp only [ne_eq, not_true_eq_false, if_false, if_neg h4, List.append_assoc]
    exact vput_fine w1 b g xs A _ c _ hv hr (by omega)
  ·
   simp only [ne_eq, he, not_false_eq_true, if_true]
   exact (vput_had w1 b g xs e 0 A _ c hv (by simpa using he)).mono fun r w' ⟨h1, h2⟩ => ⟨h1, h2 ▸ VBetween.refl hv⟩
 have HP := Lib.hid hp
 have HR := Lib.hid hr
 have hel : (enc (ys.length : Int).toNat).length = 1 + nb ys.length := by rw [enc_len, Int.toNat_natCast]
 have HE := Lib.hid hel
 clear hp hr hel
 go_enter Tryz.func146, Tryz.ntmps146
 go_wp2_with (first
  | (go_at_call 194; refine (form_any _ _ (by omega) (by omega)).mono ?_; rintro r w1 ⟨A, c, rfl, hF⟩; have HF := Lib.hid hF; clear hF)
  | (at_builtin; refine wpList_app rfl _ _ rfl rfl HF.out.1 HE.out rfl (HR.out.chg HF.out.2.2 (by simp)) (by omega) ?_; intro A2 c2 w2 own2 hg2 hA2; have HF2 := Lib.hid (fresh_grown HF.out own2 hg2 hA2); clear own2 hg2 hA2)
  | (go_at_call 193; refine (HP.out _ _ _ HF2.out).mono ?_; rintro r w3 ⟨rfl, hB⟩))
 go_end0
 exact ⟨rfl, VBetween.later HF2.out.2.2 hB⟩

set_option maxHeartbeats 400000 in
theorem vtext_any (w : World) (b g : Nat) (xs : List UInt8) (e : Int) (s : ByteArray) (h : VWr w b g xs e) (hlen : xs.length ≤ 1048576) (hm : s.size ≤ 140737488351232) :
  Calls Tryz.prog 145 #[.pointer (some ⟨b, 0, none⟩), .string s] w fun r w' => r = .returned (.tuple #[]) ∧ VBetween w w' b g (wRaw xs e s.data.toList).1 (wRaw xs e s.data.toList).2 := by
 have hcv := fun w => run_bytes_of_string (P := Tryz.prog) w 9 25 5 s Tryz.underlying9 Tryz.underlying25 Tryz.underlying5
 have hc : Chg [] w (w.alloc (.cells (bytesRow s (grownCap w s.size 0 5)) 5 ((bytesRow s (grownCap w s.size 0 5)).size, (bytesRow s (grownCap w s.size 0 5)).size + 1))).drew := ((Chg.refl [] w).alloc _).drew
 have hv := vraw_any _ b g xs e (some ⟨w.heap.size, 0, none⟩) s.size (grownCap w s.size 0 5) s.data.toList (h.chg hc (by simp) (by simp)) hlen hm (Bs.str w s _ _)
 have HV := Lib.hid hv
 have HC := Lib.hid hc
 clear hv hc
 go_enter Tryz.func145, Tryz.ntmps145
 go_wp2_with (go_at_call 146; refine HV.out.mono ?_; rintro r w1 ⟨rfl, hB⟩)
 go_end0
 exact ⟨rfl, VBetween.later HC.out hB⟩

set_option maxHeartbeats 400000 in
theorem vout_any (w : World) (b g : Nat) (xs : List UInt8) (e : Int) (h : VWr w b g xs e) (hlen : xs.length ≤ 1048576) :
  Calls Tryz.prog 147 #[.pointer (some ⟨b, 0, none⟩)] w fun r w' => ∃ A c, r = .returned (.tuple #[.slice A (outs xs e).length c, .int .i64 e]) ∧ Fresh w w' A c (outs xs e) := by
 obtain ⟨A, c, h1, h2, _⟩ := id h
 have k1 := cell_of h1 0
 have k2 := cell_of h1 1
 simp only [List.getElem?_toArray, List.getElem?_cons_zero, List.getElem?_cons_succ] at k1 k2
 have hb := lt_of_heap h1
 have H := Lib.hid h1
 clear h1
 unfold outs
 by_cases he : e = 0
 ·
  subst he
  simp only [if_true]
  go_enter Tryz.func147, Tryz.ntmps147
  go_wp2_with (at_builtin; refine wpList_app rfl _ _ rfl rfl (OwnB.empty w) rfl rfl (h2.reads.chg ((Chg.refl [] w).alloc _) (by simp)) (by simp; omega) ?_; intro A' c' w1 own1 hg1 hA1)
  go_ret2
  exact ⟨A', c', by simp, fresh_app own1 hg1 hA1⟩
 ·
  simp only [if_neg he]
  have he' : (e != 0) = true := by simpa using he
  clear he
  go_enter Tryz.func147, Tryz.ntmps147
  go_wp2
  go_region
  all_goals (go_wp2; go_ret2; exact ⟨none, 0, rfl, OwnB.none_ _, by simp, (Chg.refl _ _).drew⟩)
end
section
open Go.RowKit

def Vs (w w' : World) (b : Nat) (xs : List UInt8) (e : Int) : Prop := ∃ g, VWr w' b g xs e ∧ w.heap.size ≤ b ∧ w.heap.size ≤ g ∧ Chg [] w w'
theorem Vs.chg {w w' : World} {b : Nat} {xs : List UInt8} {e : Int} (h : Vs w w' b xs e) : Chg [] w w' := by obtain ⟨_, _, _, _, h⟩ := h; exact h
theorem vs_between {w w1 w2 : World} {b g : Nat} {xs : List UInt8} {e : Int} (h2 : w.heap.size ≤ b) (h3 : w.heap.size ≤ g) (h4 : Chg [] w w1) (h : VBetween w1 w2 b g xs e) : Vs w w2 b xs e := by
 obtain ⟨g', q1, q2, q3⟩ := h
 have := h4.size
 refine ⟨g', q1, h2, by omega, h4.both q2 ?_⟩
 intro i hi
 simp at hi
 omega
theorem vs_new (w w1 : World) (hc : Chg [] w w1) : Vs w (w1.alloc (.cells #[.slice none 0 0, .int .i64 0] 151)) w1.heap.size [] 0 :=
 ⟨w1.heap.size, ⟨none, 0, heap_alloc_new w1 _, OwnB.none_ _, .inl ⟨rfl, rfl⟩⟩, hc.size, hc.size, hc.alloc _⟩
theorem vs_num (w w1 : World) (b : Nat) (xs : List UInt8) (e x : Int) (h : Vs w w1 b xs e) (hlen : xs.length ≤ 1048576) (hx : -9223372036854775808 ≤ x) (hx2 : x ≤ 9223372036854775807) :
  Calls Tryz.prog 144 #[.pointer (some ⟨b, 0, none⟩), .int .i64 x] w1 fun r w' => r = .returned (.tuple #[]) ∧ Vs w w' b (wNum xs e x).1 (wNum xs e x).2 := by
 obtain ⟨g, h1, h2, h3, h4⟩ := h
 exact (vnum_any w1 b g xs e x h1 hlen hx hx2).mono fun _ _ ⟨q1, q2⟩ => ⟨q1, vs_between h2 h3 h4 q2⟩
theorem vs_raw (w w1 : World) (b : Nat) (xs : List UInt8) (e : Int) (B : Option Addr) (m d : Nat) (ys : List UInt8) (h : Vs w w1 b xs e) (hlen : xs.length ≤ 1048576) (hm : m ≤ 140737488351232) (hr : Bs w B m ys) :
  Calls Tryz.prog 146 #[.pointer (some ⟨b, 0, none⟩), .slice B m d] w1 fun r w' => r = .returned (.tuple #[]) ∧ Vs w w' b (wRaw xs e ys).1 (wRaw xs e ys).2 := by
 obtain ⟨g, h1, h2, h3, h4⟩ := h
 exact (vraw_any w1 b g xs e B m d ys h1 hlen hm (hr.chg h4 (by simp))).mono fun _ _ ⟨q1, q2⟩ => ⟨q1, vs_between h2 h3 h4 q2⟩
theorem vs_text (w w1 : World) (b : Nat) (xs : List UInt8) (e : Int) (s : ByteArray) (h : Vs w w1 b xs e) (hlen : xs.length ≤ 1048576) (hm : s.size ≤ 140737488351232) :
  Calls Tryz.prog 145 #[.pointer (some ⟨b, 0, none⟩), .string s] w1 fun r w' => r = .returned (.tuple #[]) ∧ Vs w w' b (wRaw xs e s.data.toList).1 (wRaw xs e s.data.toList).2 := by
 obtain ⟨g, h1, h2, h3, h4⟩ := h
 exact (vtext_any w1 b g xs e s h1 hlen hm).mono fun _ _ ⟨q1, q2⟩ => ⟨q1, vs_between h2 h3 h4 q2⟩
theorem vs_out (w w1 : World) (b : Nat) (xs : List UInt8) (e : Int) (h : Vs w w1 b xs e) (hlen : xs.length ≤ 1048576) :
  Calls Tryz.prog 147 #[.pointer (some ⟨b, 0, none⟩)] w1 fun r w' => ∃ A c, r = .returned (.tuple #[.slice A (outs xs e).length c, .int .i64 e]) ∧ Fresh w w' A c (outs xs e) := by
 obtain ⟨g, h1, h2, h3, h4⟩ := h
 exact (vout_any w1 b g xs e h1 hlen).mono fun _ _ ⟨A, c, q1, q2⟩ => ⟨A, c, q1, q2.since h4⟩
end
section
open Go.RowKit

set_option maxHeartbeats 4000000 in
theorem fcheck_any (w : World) (k m : Int) (A : Option Addr) (n c : Nat) (hn : n ≤ 140737488351232) :
  Calls Tryz.prog 110 #[.agg #[.int .i64 k, .int .i64 m, .slice A n c]] w fun e w' => e = .returned (.int .i64 (chkE k m n)) ∧ Chg [] w w' := by
 have go : ∀ v, chkE k m n = v → Calls Tryz.prog 110 #[.agg #[.int .i64 k, .int .i64 m, .slice A n c]] w (fun e w' => e = .returned (.int .i64 v) ∧ Chg [] w w') → Calls Tryz.prog 110 #[.agg #[.int .i64 k, .int .i64 m, .slice A n c]] w fun e w' => e = .returned (.int .i64 (chkE k m n)) ∧ Chg [] w w' := fun v hv h => hv ▸ h
 by_cases h1 : k = 1
 ·
  subst h1
  by_cases m0 : m < 0
  ·
   refine go 2 (chkE_odd (by unfold Fine; omega)) ?_
   have m0' : ¬ 0 ≤ m := by omega
   clear go
   go_enter Tryz.func110, Tryz.ntmps110
   go_wp2; go_ret
   exact ⟨rfl, (Chg.refl _ _).alloc _⟩
  have m0' : 0 ≤ m := by omega
  by_cases m1 : 511 < m
  ·
   refine go 2 (chkE_odd (by unfold Fine; omega)) ?_
   have m1' : ¬ m ≤ 511 := by omega
   clear go
   go_enter Tryz.func110, Tryz.ntmps110
   go_wp2; go_ret
   exact ⟨rfl, (Chg.refl _ _).alloc _⟩
  have m1' : m ≤ 511 := by omega
  by_cases n1 : 1000 < n
  ·
   refine go 2 (chkE_odd (by unfold Fine; omega)) ?_
   have n1' : decide ((n : Int) ≤ 1000) = false := by simp; omega
   clear go
   go_enter Tryz.func110, Tryz.ntmps110
   go_wp2; go_ret
   exact ⟨rfl, (Chg.refl _ _).alloc _⟩
  ·
   refine go 0 (chkE_fine (by unfold Fine; omega)) ?_
   have n1' : decide ((n : Int) ≤ 1000) = true := by simp; omega
   clear go
   go_enter Tryz.func110, Tryz.ntmps110
   go_wp2; go_ret
   exact ⟨rfl, (Chg.refl _ _).alloc _⟩
 have h1' : (k == 1) = false := by simpa using h1
 by_cases h2 : k = 2
 ·
  subst h2
  by_cases m0 : m < 0
  ·
   refine go 2 (chkE_odd (by unfold Fine; omega)) ?_
   have m0' : ¬ 0 ≤ m := by omega
   clear go
   go_enter Tryz.func110, Tryz.ntmps110
   go_wp2; go_ret
   exact ⟨rfl, (Chg.refl _ _).alloc _⟩
  have m0' : 0 ≤ m := by omega
  by_cases m1 : 511 < m
  ·
   refine go 2 (chkE_odd (by unfold Fine; omega)) ?_
   have m1' : ¬ m ≤ 511 := by omega
   clear go
   go_enter Tryz.func110, Tryz.ntmps110
   go_wp2; go_ret
   exact ⟨rfl, (Chg.refl _ _).alloc _⟩
  have m1' : m ≤ 511 := by omega
  by_cases n1 : n = 0
  ·
   subst n1
   refine go 0 (chkE_fine (by unfold Fine; omega)) ?_
   clear go
   go_enter Tryz.func110, Tryz.ntmps110
   go_wp2; go_ret
   exact ⟨rfl, (Chg.refl _ _).alloc _⟩
  ·
   refine go 2 (chkE_odd (by unfold Fine; omega)) ?_
   have n1' : ((n : Int) == 0) = false := by simp; omega
   clear go
   go_enter Tryz.func110, Tryz.ntmps110
   go_wp2; go_ret
   exact ⟨rfl, (Chg.refl _ _).alloc _⟩
 have h2' : (k == 2) = false := by simpa using h2
 by_cases h3 : k = 3
 ·
  subst h3
  by_cases m0 : m = 0
  ·
   subst m0
   by_cases n1 : n = 0
   ·
    subst n1
    refine go 0 (chkE_fine (by unfold Fine; omega)) ?_
    clear go
    go_enter Tryz.func110, Tryz.ntmps110
    go_wp2; go_ret
    exact ⟨rfl, (Chg.refl _ _).alloc _⟩
   ·
    refine go 2 (chkE_odd (by unfold Fine; omega)) ?_
    have n1' : ((n : Int) == 0) = false := by simp; omega
    clear go
    go_enter Tryz.func110, Tryz.ntmps110
    go_wp2; go_ret
    exact ⟨rfl, (Chg.refl _ _).alloc _⟩
  ·
   refine go 2 (chkE_odd (by unfold Fine; omega)) ?_
   have m0' : (m == 0) = false := by simpa using m0
   clear go
   go_enter Tryz.func110, Tryz.ntmps110
   go_wp2; go_ret
   exact ⟨rfl, (Chg.refl _ _).alloc _⟩
 have h3' : (k == 3) = false := by simpa using h3
 refine go 2 (chkE_odd (by unfold Fine; omega)) ?_
 clear go
 go_enter Tryz.func110, Tryz.ntmps110
 go_wp2; go_ret
 exact ⟨rfl, (Chg.refl _ _).alloc _⟩

set_option maxHeartbeats 1000000 in
theorem fbytes_any (w : World) (k m : Int) (A : Option Addr) (n c : Nat) (ys : List UInt8) (h : Bs w A n ys) (hn : n ≤ 140737488351232) :
  Calls Tryz.prog 142 #[.agg #[.int .i64 k, .int .i64 m, .slice A n c]] w fun e w' => ∃ A' c', e = .returned (.tuple #[.slice A' (effO k m ys).length c', .int .i64 (chkE k m n)]) ∧ Fresh w w' A' c' (effO k m ys) := by
 have hl := h.len
 subst hl
 obtain ⟨w0, hw0⟩ : ∃ w0 : World, w0 = w.alloc (.cells #[.int .i64 k, .int .i64 m, .slice A ys.length c] 27) := ⟨_, rfl⟩
 have c0 : Chg [] w w0 := hw0 ▸ (Chg.refl [] w).alloc _
 have b0 : w0.heap[w.heap.size]? = some (.cells #[.int .i64 k, .int .i64 m, .slice A ys.length c] 27 (0, 0)) := hw0 ▸ heap_alloc_new w _
 have k0 := cell_of b0 0
 have k1 := cell_of b0 1
 have k2 := cell_of b0 2
 simp only [List.getElem?_toArray, List.getElem?_cons_succ, List.getElem?_cons_zero] at k0 k1 k2
 have H := Lib.hid (h.chg c0 (by simp))
 have W0 := Lib.hid hw0
 have C0 := Lib.hid c0
 clear hw0 c0 b0 h
 unfold effO
 by_cases hf : Fine k m ys.length
 ·
  rw [if_pos hf, chkE_fine hf]
  obtain ⟨e1, e2, e3, l1, l2, l3⟩ := eff_writes hf
  have hb := fine_len hf
  have E1 := Lib.hid e1
  have E2 := Lib.hid e2
  have E3 := Lib.hid e3
  have hc := fcheck_any w0 k m A ys.length c hn
  rw [chkE_fine hf] at hc
  have HC := Lib.hid hc
  clear e1 e2 e3 hf hc
  go_enter Tryz.func142, Tryz.ntmps142
  go_wp2_with fail
  rw [← W0.out]
  refine HC.out.mono ?_
  rintro e w1 ⟨rfl, c1⟩
  have C1 := Lib.hid c1
  have hv := vs_new w0 w1 c1
  have p0 := (hv.chg).cell k0 (by simp)
  have K2 := Lib.hid hv
  clear c1 hv
  generalize w.heap.size = s at *
  go_wp2_with fail
  refine (vs_num w0 _ _ [] 0 k K2.out (by simp) (by omega) (by omega)).mono ?_
  rintro e w3 ⟨rfl, h3⟩
  rw [E1.out] at h3
  have p1 := h3.chg.cell k1 (by simp)
  have K3 := Lib.hid h3
  clear h3 p0 K2
  generalize w1.heap.size = b at *
  go_wp2_with fail
  refine (vs_num w0 w3 b _ 0 m K3.out (by omega) (by omega) (by omega)).mono ?_
  rintro e w4 ⟨rfl, h4⟩
  rw [E2.out] at h4
  have p2 := h4.chg.cell k2 (by simp)
  have K4 := Lib.hid h4
  clear h4 p1 K3; go_wp2_with fail
  refine (vs_raw w0 w4 b _ 0 A ys.length c ys K4.out (by omega) hn H.out).mono ?_
  rintro e w5 ⟨rfl, h5⟩
  rw [E3.out] at h5
  have K5 := Lib.hid h5
  clear h5 p2 K4; go_wp2_with fail
  refine (vs_out w0 w5 b _ 0 K5.out (by omega)).mono ?_
  rintro e w6 ⟨A', c', rfl, h6⟩
  have e0 : outs (effB k m ys) 0 = effB k m ys := by simp [outs]
  rw [e0] at h6 ⊢
  have K6 := Lib.hid (h6.since C0.out)
  clear h6 e0 k0 k1 k2 K5; go_wp2; go_ret2
  exact ⟨A', c', rfl, K6.out⟩
 ·
  rw [if_neg hf, chkE_odd hf]
  have hc := fcheck_any w0 k m A ys.length c hn
  rw [chkE_odd hf] at hc
  have HC := Lib.hid hc
  clear hf hc
  go_enter Tryz.func142, Tryz.ntmps142
  go_wp2_with fail
  rw [← W0.out]
  refine HC.out.mono ?_
  rintro e w1 ⟨rfl, c1⟩
  have C1 := Lib.hid (C0.out.trans c1)
  clear c1; go_wp2; go_ret2
  exact ⟨none, 0, rfl, Fresh.none_ C1.out⟩
end
end Go.Proofs.YtomgjogkkoigbaaGreatDoor
