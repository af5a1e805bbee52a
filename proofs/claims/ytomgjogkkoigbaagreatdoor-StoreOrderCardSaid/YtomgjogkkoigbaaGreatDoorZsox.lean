/- The program's Of. store.Shelf, Near, Missing, Known. store.Put, store.Join. Sixteen letters: a number's digits to the base 16: no memory here. strconv.FormatUint at the base 16, strings.Repeat of '0', print.Text. The fingerprint: through, More, Sum; the document's. print.Mix: the pieces of numbers, eight bytes each. Slices of numbers as arguments. The law's puts (layer 10). What a store misses of another one: purely. -/
import Derived.Test.YtomgjogkkoigbaaGreatDoorZsow
import Derived.Test.YtomgjogkkoigbaaGreatDoorZson
import Derived.Test.YtomgjogkkoigbaaGreatDoorZsok
import Derived.Test.YtomgjogkkoigbaaGreatDoorZsob
import Derived.Deep.Cut
import Derived.Test.YtomgjogkkoigbaaGreatDoorZsov
import Derived.Test.YtomgjogkkoigbaaGreatDoorZsoj
import Derived.RangeFuncCalls
import Derived.Test.YtomgjogkkoigbaaGreatDoorZsod
import Derived.Test.YtomgjogkkoigbaaGreatDoorZsou
import Derived.Test.YtomgjogkkoigbaaGreatDoorZsoa
import Derived.Test.YtomgjogkkoigbaaGreatDoorZsoq
set_option linter.unusedSimpArgs false
set_option linter.unusedVariables false
namespace Go.Proofs.YtomgjogkkoigbaaGreatDoor
section
open Go.RowKit Go.Lib


theorem fineDQ (n s : Int) : FineD n s ↔ FineQ n s := Iff.rfl
set_option maxRecDepth 100000 in
set_option maxHeartbeats 4000000 in
theorem of1_any (w : World) (n s : Int) : Calls Tryz.prog 88 #[.agg #[.int .i64 n, .int .i64 s]] w fun e w' => e = .returned (.bool (decide (¬ FineQ n s))) ∧ Chg [] w w' := by
 obtain ⟨w1, hw1, c1, b1⟩ := news1 w (.cells #[.int .i64 n, .int .i64 s] 24)
 have W1 := Lib.hid hw1
 have C := Lib.hid c1
 have z0 := cell_of b1 0
 have z1 := cell_of b1 1
 simp only [List.getElem?_toArray, List.getElem?_cons_succ, List.getElem?_cons_zero] at z0 z1
 clear hw1 c1 b1
 generalize hv : decide (¬ FineQ n s) = v
 have HV := Lib.hid hv
 clear hv
 go_enter Tryz.func88, Tryz.ntmps88
 go_upto_region 1 with fail
 rw [← W1.out]
 generalize w.heap.size = g0 at *
 go_wp2_with fail
 refine (dcheck_any w1 n s).mono ?_
 rintro e w2 ⟨rfl, hc⟩
 replace C := Lib.hid (C.out.trans hc)
 clear hc z0 z1
 by_cases hf : FineQ n s
 ·
  rw [chkD_fine hf]
  obtain rfl : v = false := by rw [← HV.out]; exact decide_eq_false (fun q => q hf)
  clear hf HV
  go_wp2
  go_ret
  exact ⟨rfl, C.out⟩
 ·
  rw [chkD_odd hf]
  obtain rfl : v = true := by rw [← HV.out]; exact decide_eq_true hf
  clear hf HV
  go_wp2
  go_ret
  exact ⟨rfl, C.out⟩
set_option maxRecDepth 100000 in
set_option maxHeartbeats 4000000 in
theorem idxdot_any (w : World) (A : Option Addr) (c : Nat) (l : List (Int × Int)) (h : RdK dotTy w A l.length l) (hn : l.length ≤ 140737488351232) :
  Calls Tryz.prog 156 #[.slice A l.length c, .func (.func 88) #[] #[]] w fun e w' => (∃ v : Int, e = .returned (.int .i64 v) ∧ fineL l = decide (v < 0)) ∧ Chg [] w w' := by
 have H := Lib.hid h
 have HN := Lib.hid hn
 clear h hn
 go_enter Tryz.func156, Tryz.ntmps156
 go_wp2
 go_loopw [5, 8] (fun v5 v8 wr => ∃ (k : Nat), k ≤ l.length ∧ v8 = .int .i64 k ∧ Hid (fineL (l.take k) = true) ∧ Hid (Chg [] w wr)) (fun _ v8 _ => l.length - (RowKit.intOf v8).toNat)
 case atStart => exact ⟨0, Nat.zero_le _, rfl, Lib.hid rfl, Chg.refl _ _⟩
 case round =>
  obtain ⟨k, hk, rfl, FN, RC⟩ := hrel
  have i0 : (0 : Int) ≤ (k : Int) := by omega
  by_cases hlt : k < l.length
  ·
   have i1 : (k : Int) < (l.length : Int) := by omega
   have i3 : IntKind.i64.wrap ((k : Int) + 1) = (k : Int) + 1 := IntWalk.i64_in _ (by have := HN.out; omega)
   obtain ⟨x, hx⟩ : ∃ x, l[k]? = some x := ⟨_, List.getElem?_eq_getElem hlt⟩
   obtain ⟨g, o, eA, _⟩ := H.out.line (by omega)
   subst eA
   obtain ⟨q0, q1⟩ := dotCells (H.out.chg RC.out (by simp)) hx
   have FT := Lib.hid (fine_take hx)
   have NO : Hid (¬ FineQ x.1 x.2 → fineL l = false) := Lib.hid (fun q => fine_no hx q)
   clear hx
   go_wp2_with fail
   refine (of1_any wr x.1 x.2).mono ?_
   rintro e w2 ⟨rfl, hc⟩
   have C2 := Lib.hid (RC.out.trans hc)
   clear hc q0 q1
   by_cases hf : FineQ x.1 x.2
   ·
    rw [decide_eq_false (fun q => q hf)]
    have NF : Hid (Hid (fineL (l.take (k + 1)) = true)) := Lib.hid (Lib.hid (by rw [FT.out, FN.out, decide_eq_true hf]; rfl))
    clear hf NO FT FN
    go_wp2
    go_round
    case rel => exact ⟨k + 1, by omega, by go_num, NF.out, C2.out⟩
    case measure => simp [RowKit.intOf]; omega
   ·
    rw [decide_eq_true hf]
    have NF := Lib.hid (NO.out hf)
    clear hf NO FT FN
    go_wp2
    go_ret
    exact ⟨by rw [NF.out]; simp, C2.out⟩
  ·
   obtain rfl : k = l.length := by omega
   rw [List.take_length] at FN
   have i1 : ¬ (l.length : Int) < (l.length : Int) := by omega
   go_wp2
   go_ret
   exact ⟨by rw [FN.out]; simp, RC.out⟩
set_option maxRecDepth 100000 in
set_option maxHeartbeats 4000000 in
theorem containsdot_any (w : World) (A : Option Addr) (c : Nat) (l : List (Int × Int)) (h : RdK dotTy w A l.length l) (hn : l.length ≤ 140737488351232) :
  Calls Tryz.prog 87 #[.slice A l.length c, .func (.func 88) #[] #[]] w fun e w' => e = .returned (.bool (!fineL l)) ∧ Chg [] w w' := by
 have go : ∀ v, (!fineL l) = v → Calls Tryz.prog 87 #[.slice A l.length c, .func (.func 88) #[] #[]] w (fun e w' => e = .returned (.bool v) ∧ Chg [] w w') → Calls Tryz.prog 87 #[.slice A l.length c, .func (.func 88) #[] #[]] w fun e w' => e = .returned (.bool (!fineL l)) ∧ Chg [] w w' := fun v hv h => hv ▸ h
 have H := Lib.hid h
 have HN := Lib.hid hn
 clear h hn
 rcases hf : fineL l with _ | _
 ·
  rw [hf] at go
  refine go true rfl ?_
  clear go
  go_enter Tryz.func87, Tryz.ntmps87
  go_wp2_with fail
  refine (idxdot_any w A c l H.out HN.out).mono ?_
  rintro e w2 ⟨⟨v, rfl, hv⟩, hc⟩
  have C := Lib.hid hc
  have hv2 : decide ((0 : Int) ≤ v) = true := decide_eq_true (by rw [hf] at hv; have := of_decide_eq_false hv.symm; omega)
  clear hv hc hf
  go_wp2
  go_ret
  exact ⟨rfl, C.out⟩
 ·
  rw [hf] at go
  refine go false rfl ?_
  clear go
  go_enter Tryz.func87, Tryz.ntmps87
  go_wp2_with fail
  refine (idxdot_any w A c l H.out HN.out).mono ?_
  rintro e w2 ⟨⟨v, rfl, hv⟩, hc⟩
  have C := Lib.hid hc
  have hv2 : decide ((0 : Int) ≤ v) = false := decide_eq_false (by rw [hf] at hv; have := of_decide_eq_true hv.symm; omega)
  clear hv hc hf
  go_wp2
  go_ret
  exact ⟨rfl, C.out⟩
set_option maxRecDepth 100000 in
set_option maxHeartbeats 4000000 in
theorem of2_any (w : World) (A : Option Addr) (c : Nat) (xs : List Sp) (n s : Int) (h : OwnK spanTy w A c xs) (hn : xs.length ≤ 100000) (hb : ∀ x ∈ xs, B3 x) :
  Calls Tryz.prog 93 #[.slice A xs.length c, .agg #[.int .i64 n, .int .i64 s]] w fun e w' => ∃ A' c', e = .returned (.slice A' (pushP xs (n, s, s)).length c') ∧ OwnK spanTy w' A' c' (pushP xs (n, s, s)) ∧ (A' = A ∨ ∀ a, A' = some a → w.heap.size ≤ a.block) ∧ ∀ S : List Nat, (∀ a, A = some a → a.block ∈ S) → Chg S w w' := by
 obtain ⟨w1, hw1, c1, b1⟩ := news1 w (.cells #[.int .i64 n, .int .i64 s] 24)
 have W1 := Lib.hid hw1
 have C := Lib.hid c1
 have H := Lib.hid (h.chg c1 (by simp))
 have HN := Lib.hid hn
 have HB := Lib.hid hb
 have z0 := cell_of b1 0
 have z1 := cell_of b1 1
 simp only [List.getElem?_toArray, List.getElem?_cons_succ, List.getElem?_cons_zero] at z0 z1
 clear hw1 c1 b1 h hn hb
 generalize hSZ : w.heap.size = sz
 have SZ := Lib.hid hSZ
 clear hSZ
 go_enter Tryz.func93, Tryz.ntmps93
 go_upto_region 1 with fail
 rw [← W1.out]
 rw [SZ.out] at z0 z1
 rw [SZ.out]
 go_wp2_with fail
 refine (alone_any w1 n s).mono ?_
 rintro e w2 ⟨rfl, hc⟩
 replace H := Lib.hid (H.out.chg hc (by simp))
 replace C := Lib.hid (C.out.trans hc)
 clear hc z0 z1
 go_wp2_with fail
 refine (push_any w2 c (n, s, s) A xs H.out HN.out HB.out).mono ?_
 rintro e w3 ⟨A3, c3, rfl, ho, ha, hs⟩
 have HO := Lib.hid ho
 have HA : Hid (A3 = A ∨ ∀ a, A3 = some a → sz ≤ a.block) := Lib.hid (ha.imp id (fun q a e => by have := q a e; have := C.out.size; rw [SZ.out] at this; omega))
 have HS : Hid (∀ S : List Nat, (∀ a, A = some a → a.block ∈ S) → Chg S w w3) := Lib.hid (fun S q => (C.out.mono (S' := S) (by simp)).trans (hs S q))
 clear ho ha hs
 go_wp2
 go_ret
 exact ⟨A3, c3, rfl, HO.out, HA.out, HS.out⟩
set_option maxRecDepth 100000 in
set_option maxHeartbeats 4000000 in
theorem foldof_any (w : World) (A : Option Addr) (c : Nat) (l : List (Int × Int)) (h : RdK dotTy w A l.length l) (hn : l.length ≤ 100000) (hf : fineL l = true) :
  Calls Tryz.prog 91 #[.slice A l.length c, .slice none 0 0, .func (.func 93) #[] #[]] w fun e w' => ∃ A' c', e = .returned (.slice A' ((l.map aloneP).foldl pushP []).length c') ∧ OwnK spanTy w' A' c' ((l.map aloneP).foldl pushP []) ∧ (∀ a, A' = some a → w.heap.size ≤ a.block) ∧ Chg [] w w' := by
 have H := Lib.hid h
 have HN := Lib.hid hn
 have HF := Lib.hid hf
 clear h hn hf
 go_enter Tryz.func91, Tryz.ntmps91
 go_wp2
 go_loopw [1, 11] (fun v1 v11 wr => ∃ (k : Nat) (A' : Option Addr) (d' : Nat), k ≤ l.length ∧ v11 = .int .i64 k ∧ v1 = .slice A' (((l.take k).map aloneP).foldl pushP []).length d' ∧ Hid (OwnK spanTy wr A' d' (((l.take k).map aloneP).foldl pushP [])) ∧ Hid (∀ a, A' = some a → w.heap.size ≤ a.block) ∧ Hid (Chg [] w wr)) (fun _ v11 _ => l.length - (RowKit.intOf v11).toNat)
 case atStart => exact ⟨0, none, 0, Nat.zero_le _, rfl, rfl, OwnK.none_ _, Lib.hid (by simp), Chg.refl _ _⟩
 case round =>
  obtain ⟨k, A1, d1, hk, rfl, rfl, RO, RN, HI⟩ := hrel
  generalize wr = w4 at *
  clear wr
  by_cases hlt : k < l.length
  ·
   obtain ⟨x, hx⟩ : ∃ x, l[k]? = some x := ⟨_, List.getElem?_eq_getElem hlt⟩
   obtain ⟨g, o, eA, _⟩ := H.out.line (by omega)
   subst eA
   obtain ⟨q0, q1⟩ := dotCells (H.out.chg HI.out (by simp)) hx
   have i0 : (0 : Int) ≤ (k : Int) := by omega
   have i1 : (k : Int) < (l.length : Int) := by omega
   have i3 : IntKind.i64.wrap ((k : Int) + 1) = (k : Int) + 1 := IntWalk.i64_in _ (by have := HN.out; omega)
   have FS : Hid (((l.take (k + 1)).map aloneP).foldl pushP [] = pushP (((l.take k).map aloneP).foldl pushP []) (x.1, x.2, x.2)) := Lib.hid (by rw [alone_take hx, List.foldl_append]; rfl)
   have PR := Lib.hid (fold_props ((l.take k).map aloneP) [] (by simp) (fun y hy => by
    obtain ⟨d, hd, rfl⟩ := List.mem_map.1 hy
    exact alone_B3 HF.out _ (List.mem_map.2 ⟨d, List.mem_of_mem_take hd, rfl⟩)))
   have LK : Hid (((l.take k).map aloneP).length ≤ 100000) := Lib.hid (by have := HN.out; rw [List.length_map, List.length_take]; omega)
   generalize ((l.take k).map aloneP).foldl pushP [] = out at *
   obtain ⟨w5, hw5, c5, b5⟩ := news1 w4 (.cells #[.int .i64 x.1, .int .i64 x.2] 24)
   have W5 := Lib.hid hw5
   have B5 := Lib.hid b5
   replace RO := Lib.hid (RO.out.chg c5 (by simp))
   replace HI := Lib.hid (HI.out.trans c5)
   clear hw5 c5 hx b5
   go_upto_region 4 with fail
   rw [← W5.out]
   generalize w4.heap.size = g4 at *
   have y0 := cell_of B5.out 0
   have y1 := cell_of B5.out 1
   simp only [List.getElem?_toArray, List.getElem?_cons_succ, List.getElem?_cons_zero] at y0 y1
   go_wp2_with fail
   refine (of2_any w5 A1 d1 out x.1 x.2 RO.out (by have := PR.out.2; have := LK.out; simp at *; omega) PR.out.1).mono ?_
   rintro e w6 ⟨A6, c6, rfl, ho, ha, hs⟩
   have O6 := Lib.hid ho
   have N6 : Hid (∀ a, A6 = some a → w.heap.size ≤ a.block) := Lib.hid (fun a e => by
    rcases ha with rfl | q
    ·
     exact RN.out a e
    ·
     exact Nat.le_trans HI.out.size (q a e))
   have C6 : Hid (Chg [] w w6) := Lib.hid (HI.out.trans' (hs (blkOf A1) (fun a e => mem_blkOf e)) (fun i hi => by
    obtain ⟨u, hu, rfl⟩ := of_blkOf hi
    exact .inr (RN.out u hu)))
   clear ho ha hs q0 q1 y0 y1
   go_wp2
   go_round
   case rel => exact ⟨k + 1, A6, c6, by omega, by go_num, by rw [FS.out], by rw [FS.out]; exact O6, N6, C6⟩
   case measure => simp [RowKit.intOf]; omega
  ·
   obtain rfl : k = l.length := by omega
   rw [List.take_length] at RO ⊢
   have i1 : ¬ (l.length : Int) < (l.length : Int) := by omega
   go_wp2
   go_ret
   exact ⟨A1, d1, rfl, RO.out, RN.out, HI.out⟩
set_option maxRecDepth 100000 in
set_option maxHeartbeats 4000000 in
theorem paof_any (w : World) (A : Option Addr) (c : Nat) (l : List (Int × Int)) (h : RdK dotTy w A l.length l) (hn : l.length ≤ 100000) :
  Calls Tryz.prog 41 #[.slice A l.length c] w fun e w' => ∃ A' c', e = .returned (.tuple #[.slice A' (ofE l).2.length c', .int .i64 (ofE l).1]) ∧ OwnK spanTy w' A' c' (ofE l).2 ∧ (∀ a, A' = some a → w.heap.size ≤ a.block) ∧ Chg [] w w' := by
 have H := Lib.hid h
 have HN := Lib.hid hn
 clear h hn
 rcases hf : fineL l with _ | _
 ·
  have e1 : ofE l = (2, []) := by unfold ofE; rw [hf]; rfl
  rw [e1]
  go_enter Tryz.func41, Tryz.ntmps41
  go_wp2_with fail
  refine (containsdot_any w A c l H.out (by have := HN.out; omega)).mono ?_
  rintro e w2 ⟨rfl, hc⟩
  rw [hf]
  have C := Lib.hid hc
  clear hc
  go_wp2
  go_ret2
  exact ⟨none, 0, rfl, OwnK.none_ _, by simp, C.out⟩
 ·
  have e1 : ofE l = boundP (tidyS (l.map aloneP)) := by unfold ofE; rw [if_pos hf]
  have ss := sortD_strict l
  have e2 : ((sortD l).map aloneP).foldl pushP [] = tidyS (l.map aloneP) := of_sorted ss.2 (ss.1.imp (fun {x y} q => by unfold LtP LtD at q; exact q))
  have FS : Hid (fineL (sortD l) = true) := Lib.hid (fineL_iff.2 (fun d hd => fineL_iff.1 hf d ((ss.2 d).1 hd)))
  have SL : Hid ((sortD l).length ≤ 100000) := Lib.hid (by
   have a := (insAll_props l).2.2
   rw [insAll_sortD] at a
   have := HN.out
   omega)
  rw [e1, ← e2]
  clear e1 e2 ss
  generalize hRR : boundP (((sortD l).map aloneP).foldl pushP []) = RR
  have HRR := Lib.hid hRR
  clear hRR
  go_enter Tryz.func41, Tryz.ntmps41
  go_wp2_with fail
  refine (containsdot_any w A c l H.out (by have := HN.out; omega)).mono ?_
  rintro e w2 ⟨rfl, hc⟩
  rw [hf]
  have C := Lib.hid hc
  clear hc hf
  go_wp2_with fail
  refine (dsort_any w2 A l.length c l (H.out.chg C.out (by simp)) (by have := HN.out; omega)).mono ?_
  rintro e w3 ⟨A3, c3, rfl, ho, ha, hc⟩
  have O3 := Lib.hid ho
  replace C := Lib.hid (C.out.trans hc)
  clear ho ha hc
  generalize sortD l = m at *
  go_wp2_with fail
  refine (foldof_any w3 A3 c3 m O3.out.reads SL.out FS.out).mono ?_
  rintro e w4 ⟨A4, c4, rfl, ho, ha, hc⟩
  have O4 := Lib.hid ho
  have N4 : Hid (∀ a, A4 = some a → w.heap.size ≤ a.block) := Lib.hid (fun a e => Nat.le_trans C.out.size (ha a e))
  replace C := Lib.hid (C.out.trans hc)
  clear ho ha hc
  generalize (m.map aloneP).foldl pushP [] = out at *
  by_cases hb : out.length ≤ 4000
  ·
   obtain rfl : RR = (0, out) := by rw [← HRR.out]; exact bound_le hb
   go_wp2_with fail
   refine (bounded_few w4 A4 out.length c4 hb).mono ?_
   rintro e w5 ⟨rfl, hc⟩
   have O5 := Lib.hid (O4.out.chg hc (by simp))
   replace C := Lib.hid (C.out.trans hc)
   clear hc
   go_wp2
   go_ret2
   exact ⟨A4, c4, rfl, O5.out, N4.out, C.out⟩
  ·
   obtain rfl : RR = (8, []) := by rw [← HRR.out]; unfold boundP; rw [if_pos (by omega)]
   go_wp2_with fail
   refine (bounded_many w4 A4 out.length c4 (by omega)).mono ?_
   rintro e w5 ⟨rfl, hc⟩
   replace C := Lib.hid (C.out.trans hc)
   clear hc
   go_wp2
   go_ret2
   exact ⟨none, 0, rfl, OwnK.none_ _, by simp, C.out⟩
end
section
open Go.RowKit Go.Lib


set_option maxRecDepth 100000 in
set_option maxHeartbeats 4000000 in
theorem stshelf_any (w : World) (A : Option Addr) (c : Nat) (xs : List EvT) (es : List EvP) (p : List UInt8) (h : RdK evTy w A xs.length xs) (hx : EvsR w xs es) (hn : xs.length ≤ 100000)  (hs : ∀ e ∈ es, EvSm e ∧ e.q.length ≤ 100000) :
  Calls Tryz.prog 21 #[.slice A xs.length c, .string (strOf p)] w fun r w' => ∃ (A' : Option Addr) (c' : Nat) (zs : List EvT), r = .returned (.slice A' zs.length c') ∧ EsF w' w.heap.size w'.heap.size A' c' zs (es.filter (fun e => decide (e.p = p))) ∧ Chg [] w w' := by
 obtain ⟨w1, hw1, c1, b1⟩ := news1 w (.cells #[.string (strOf p)] 9)
 have W1 := Lib.hid hw1
 have C1 := Lib.hid c1
 have TH := Lib.hid (stthose_any w1 A c xs es 61 #[.pointer (some ⟨w.heap.size, 0, none⟩)] (fun e => decide (e.p = p)) (h.chg c1 (by simp)) (hx.chg c1) hn (fun e he => ⟨(hs e he).1.2.1, (hs e he).2⟩) (enters_of Tryz.func61 (by kernel_rfl) rfl) (fun w' hc i x e ex ee => stshelf1_any w' w.heap.size p x e (hc.at_ b1 (by simp)) (hx.2 i x e ex ee).p))
 clear hw1 c1 b1 h hx hn hs
 go_enter Tryz.func21, Tryz.ntmps21
 go_upto_region 1 with fail
 rw [← W1.out]
 obtain ⟨g1, hg1⟩ : ∃ g, w.heap.size = g := ⟨_, rfl⟩
 rw [hg1] at TH ⊢
 clear W1
 go_wp2_with fail
 refine TH.out.mono ?_
 rintro r w2 ⟨A2, c2, zs, rfl, hl, he, hc⟩
 have P := Lib.hid (And.intro (he.low C1.out.size) (C1.out.trans hc))
 clear hl he hc TH
 go_wp2
 go_ret
 exact ⟨A2, c2, zs, rfl, P.out.1, P.out.2⟩
set_option maxRecDepth 100000 in
set_option maxHeartbeats 4000000 in
theorem stnear_any (w : World) (A : Option Addr) (c : Nat) (xs : List EvT) (es : List EvP) (p : List UInt8) (h : RdK evTy w A xs.length xs) (hx : EvsR w xs es) (hn : xs.length ≤ 100000) (hp : p.length ≤ 10000000) (hs : ∀ e ∈ es, EvSm e ∧ e.q.length ≤ 100000) :
  Calls Tryz.prog 22 #[.slice A xs.length c, .string (strOf p)] w fun r w' => ∃ (A' : Option Addr) (c' : Nat) (zs : List EvT), r = .returned (.slice A' zs.length c') ∧ EsF w' w.heap.size w'.heap.size A' c' zs (es.filter (fun e => nearL e.p p)) ∧ Chg [] w w' := by
 obtain ⟨w1, hw1, c1, b1⟩ := news1 w (.cells #[.string (strOf p)] 9)
 have W1 := Lib.hid hw1
 have C1 := Lib.hid c1
 have TH := Lib.hid (stthose_any w1 A c xs es 62 #[.pointer (some ⟨w.heap.size, 0, none⟩)] (fun e => nearL e.p p) (h.chg c1 (by simp)) (hx.chg c1) hn (fun e he => ⟨(hs e he).1.2.1, (hs e he).2⟩) (enters_of Tryz.func62 (by kernel_rfl) rfl) (fun w' hc i x e ex ee => stnear1_any w' w.heap.size p x e (hc.at_ b1 (by simp)) (hx.2 i x e ex ee).p ⟨by have := (hs e (List.mem_of_getElem? ee)).1.1; omega, by omega⟩))
 clear hw1 c1 b1 h hx hn hs
 go_enter Tryz.func22, Tryz.ntmps22
 go_upto_region 1 with fail
 rw [← W1.out]
 obtain ⟨g1, hg1⟩ : ∃ g, w.heap.size = g := ⟨_, rfl⟩
 rw [hg1] at TH ⊢
 clear W1
 go_wp2_with fail
 refine TH.out.mono ?_
 rintro r w2 ⟨A2, c2, zs, rfl, hl, he, hc⟩
 have P := Lib.hid (And.intro (he.low C1.out.size) (C1.out.trans hc))
 clear hl he hc TH
 go_wp2
 go_ret
 exact ⟨A2, c2, zs, rfl, P.out.1, P.out.2⟩
set_option maxRecDepth 100000 in
set_option maxHeartbeats 4000000 in
theorem stmissing_any (w : World) (A : Option Addr) (c : Nat) (xs : List EvT) (es : List EvP) (K : Option Addr) (kc : Nat) (ks : List Sp) (h : RdK evTy w A xs.length xs) (hx : EvsR w xs es) (hn : xs.length ≤ 100000) (hk : RdK spanTy w K ks.length ks) (hkn : ks.length ≤ 140737488351232) (hs : ∀ e ∈ es, EvSm e ∧ e.q.length ≤ 100000) :
  Calls Tryz.prog 23 #[.slice A xs.length c, .slice K ks.length kc] w fun r w' => ∃ (A' : Option Addr) (c' : Nat) (zs : List EvT), r = .returned (.slice A' zs.length c') ∧ EsF w' w.heap.size w'.heap.size A' c' zs (es.filter (fun e => !hasE ks e.n e.s)) ∧ Chg [] w w' := by
 obtain ⟨w1, hw1, c1, b1⟩ := news1 w (.cells #[.slice K ks.length kc] 28)
 have W1 := Lib.hid hw1
 have C1 := Lib.hid c1
 have TH := Lib.hid (stthose_any w1 A c xs es 64 #[.pointer (some ⟨w.heap.size, 0, none⟩)] (fun e => !hasE ks e.n e.s) (h.chg c1 (by simp)) (hx.chg c1) hn (fun e he => ⟨(hs e he).1.2.1, (hs e he).2⟩) (enters_of Tryz.func64 (by kernel_rfl) rfl) (fun w' hc i x e ex ee => stmissing1_any w' w.heap.size K kc ks x e (hc.at_ b1 (by simp)) (hk.chg (c1.trans hc) (by simp)) hkn ⟨(hx.2 i x e ex ee).n, (hx.2 i x e ex ee).s⟩))
 clear hw1 c1 b1 h hx hn hs
 go_enter Tryz.func23, Tryz.ntmps23
 go_upto_region 1 with fail
 rw [← W1.out]
 obtain ⟨g1, hg1⟩ : ∃ g, w.heap.size = g := ⟨_, rfl⟩
 rw [hg1] at TH ⊢
 clear W1
 go_wp2_with fail
 refine TH.out.mono ?_
 rintro r w2 ⟨A2, c2, zs, rfl, hl, he, hc⟩
 have P := Lib.hid (And.intro (he.low C1.out.size) (C1.out.trans hc))
 clear hl he hc TH
 go_wp2
 go_ret
 exact ⟨A2, c2, zs, rfl, P.out.1, P.out.2⟩

theorem RowTy.run_mk0 {α : Type} (R : RowTy α) (n : Nat) (h : n ≤ 1000000) (w : World) : (Instr.makeSlice R.TS (.int .i64 0) (.int .i64 (n : Int))).run Tryz.prog w = .ok (.slice (some ⟨w.heap.size, 0, none⟩) 0 n) (w.alloc (.cells (R.flat (List.replicate n R.z)).toArray R.T)) := by
 have hinf := R.info
 obtain ⟨i0, hi, hm⟩ := Option.map_eq_some_iff.1 hinf
 have hz : i0.zero = some R.zv := congrArg Prod.fst hm
 have hs : i0.size = R.k := congrArg (fun p => p.2.1) hm
 have hb : i0.bytes = R.bytes := congrArg (fun p => p.2.2) hm
 have hr := run_make (P := Tryz.prog) w R.TS R.T i0 R.zv R.under hi hz .i64 .i64 0 n (by omega) (by omega) (by rw [hb]; have := R.bpos; have : (R.bytes : Int) * (n : Int) ≤ 200 * (n : Int) := Int.mul_le_mul_of_nonneg_right (by omega) (by omega); omega) (by omega)
 rw [hr, hs, Int.toNat_natCast]
 have hk : R.zv.cells.size = R.k := by rw [← Array.length_toList, R.zc, R.klen]
 have e : madeCells R.zv.cells (n * R.k) = (R.flat (List.replicate n R.z)).toArray := by
  rw [← R.zeros]
  unfold madeCells Builtin.zeroCells
  simp [hk]
 rw [e]
 rfl
def dotsE (es : List EvP) : List (Int × Int) := es.map (fun e => (e.n, e.s))
def knownE (es : List EvP) : Int × List Sp := if StOk es then ((ofE (dotsE es)).1, (ofE (dotsE es)).2) else (2, [])
set_option maxRecDepth 100000 in
set_option maxHeartbeats 8000000 in
theorem stknownf_any (w : World) (A : Option Addr) (c : Nat) (xs : List EvT) (es : List EvP) (h : RdK evTy w A xs.length xs) (hc : xs.length ≤ c) (ho : xs = [] ∨ ∀ a, A = some a → a.block < w.heap.size) (hx : EvsR w xs es) (hn : xs.length ≤ 100000) (hs : ∀ e ∈ es, EvSm e) :
  Calls Tryz.prog 30 #[.slice A xs.length c] w fun r w' => ∃ (A' : Option Addr) (c' : Nat), r = .returned (.tuple #[.slice A' (knownE es).2.length c', .int .i64 (knownE es).1]) ∧ OwnK spanTy w' A' c' (knownE es).2 ∧ Chg [] w w' := by
 obtain ⟨R, hR⟩ : ∃ R, knownE es = R := ⟨_, rfl⟩
 rw [hR]
 have HR := Lib.hid hR
 have CK := Lib.hid (stcheck_any w A c xs es h hc ho hx hn hs)
 have HA := Lib.hid h
 have HX := Lib.hid hx
 have HN := Lib.hid hn
 clear h hc ho hx hn hs hR
 have MK := fun W => dotTy.run_mk0 xs.length (by have := HN.out; omega) W
 go_enter Tryz.func30, Tryz.ntmps30
 go_wp2_with fail
 refine CK.out.mono ?_
 rintro r w1 ⟨rfl, hc⟩
 have C1 := Lib.hid hc
 clear hc CK
 rcases stE_two es with e1 | e1
 rotate_left
 ·
  have ER : R = (2, []) := by
   rw [← HR.out]
   unfold knownE
   rw [if_neg (fun q => by rw [stE_zero.2 q] at e1; cases e1)]
  subst ER
  rw [e1]
  clear e1 HR MK
  go_wp2
  go_ret2
  exact ⟨none, 0, rfl, OwnK.none_ _, C1.out⟩
 have ER : Hid (R = ofE (dotsE es)) := Lib.hid (by rw [← HR.out]; unfold knownE; rw [if_pos (stE_zero.1 e1)])
 rw [e1]
 clear e1 HR
 obtain ⟨w2, hw2, c2, b2⟩ := news1 w1 (.cells (dotTy.flat (List.replicate xs.length dotTy.z)).toArray 24)
 have W2 := Lib.hid hw2
 have O2 : Hid (OwnK dotTy w2 (some ⟨w1.heap.size, 0, none⟩) xs.length []) := Lib.hid (OwnK.of (full := List.replicate xs.length dotTy.z) b2 (Nat.zero_le _) (by have := HN.out; unfold maxLen; omega) (by simp) (by simp))
 have C2 := Lib.hid (C1.out.trans c2)
 have MK1 : (Instr.makeSlice 64 (.int .i64 0) (.int .i64 (xs.length : Int))).run Tryz.prog w1 = .ok (.slice (some ⟨w1.heap.size, 0, none⟩) 0 xs.length) (w1.alloc (.cells (dotTy.flat (List.replicate xs.length dotTy.z)).toArray 24)) := MK w1
 rw [← hw2] at MK1
 clear hw2 c2 b2 MK
 go_wp2_with fail
 go_loopw [5, 18] (fun v5 v18 wr => ∃ (k n : Nat) (A1 : Option Addr) (d1 : Nat), k ≤ xs.length ∧ v18 = .int .i64 (k : Int) ∧ v5 = .slice A1 n d1 ∧ Hid ((dotsE (es.take k)).length = n) ∧ Hid (OwnK dotTy wr A1 d1 (dotsE (es.take k))) ∧ Hid (∀ a, A1 = some a → w.heap.size ≤ a.block) ∧ Hid (Chg [] w wr)) (fun _ v18 _ => xs.length - (RowKit.intOf v18).toNat)
 case atStart => exact ⟨0, 0, _, _, Nat.zero_le _, rfl, rfl, Lib.hid rfl, O2, Lib.hid (fun a ha => by cases ha; exact C1.out.size), C2⟩
 case round =>
  obtain ⟨k, n, A1, d1, hk, rfl, rfl, HL, OD, NA, PC⟩ := hrel
  have j0 : (0 : Int) ≤ (k : Int) := by omega
  clear MK1
  by_cases hlt : k < xs.length
  ·
   have j1 : (k : Int) < (xs.length : Int) := by omega
   have j3 : IntKind.i64.wrap ((k : Int) + 1) = (k : Int) + 1 := IntWalk.i64_in _ (by have := HN.out; omega)
   obtain ⟨g3, o3, eA, _⟩ := HA.out.line (by omega)
   subst eA
   obtain ⟨x, e, ex, ee, rx⟩ := HX.out.at_ hlt
   obtain ⟨z0, z1, z2, z3, z4, z5, z6⟩ := evCells (HA.out.chg PC.out (by simp)) ex
   have DN : Hid (dotsE (es.take (k + 1)) = dotsE (es.take k) ++ [(x.n, x.s)]) := Lib.hid (by unfold dotsE; rw [List.take_add_one, ee, rx.n, rx.s]; simp)
   clear ex ee rx
   obtain ⟨w5, hw5, c5, b5⟩ := news1 wr (.cells #[.int .i64 x.n, .int .i64 x.s, .string x.p, .int .i64 x.k, .int .i64 x.m, .slice x.A x.l x.c, .slice x.B x.bl x.bc] 30)
   have W5 := Lib.hid hw5
   have y0 := cell_of b5 0
   have y1 := cell_of b5 1
   simp only [List.getElem?_toArray, List.getElem?_cons_succ, List.getElem?_cons_zero] at y0 y1
   obtain ⟨w6, hw6, c6, b6⟩ := news1 w5 (.cells #[.int .i64 x.n, .int .i64 x.s] 24)
   have W6 := Lib.hid hw6
   have RX : Hid (RdK dotTy w6 (some ⟨w5.heap.size, 0, none⟩) 1 [(x.n, x.s)]) := Lib.hid ⟨rfl, fun j v hj => ⟨_, rfl, by rw [add_zero_lit, cell_of b6 j]; simpa [RowTy.flat, dotTy] using hj⟩⟩
   have OD6 := Lib.hid (OD.out.chg (c5.trans c6) (by simp))
   have C6 := Lib.hid (PC.out.trans (c5.trans c6))
   have LN : Hid ((n + 1) * 400 ≤ 140737488355327) := Lib.hid (by have := HL.out; unfold dotsE at this; rw [List.length_map, List.length_take] at this; have := HN.out; omega)
   clear hw5 c5 b5 hw6 c6 b6 OD
   go_upto_region 8 with fail
   rw [← W5.out]
   generalize wr.heap.size = g5 at *
   clear W5 z0 z1 z2 z3 z4 z5 z6
   go_wp2_with (at_builtin; rw [← W6.out]; refine wpList_appK (R := dotTy) rfl (.tmp 22) (.tmp 25) rfl rfl OD6.out HL.out rfl RX.out LN.out ?_; intro A3 c3 w3 o3 g3 e3)
   have HL1 : Hid ((dotsE (es.take (k + 1))).length = n + 1) := Lib.hid (by rw [DN.out, List.length_append, HL.out]; rfl)
   have O3 : Hid (OwnK dotTy w3 A3 c3 (dotsE (es.take (k + 1)))) := Lib.hid (by rw [DN.out]; exact o3)
   have C3 := Lib.hid (C6.out.grown g3 (fun i hi => by
    rcases A1 with _ | a
    ·
     simp at hi
    ·
     simp at hi; subst hi; exact .inr (NA.out _ rfl)))
   have NA3 : Hid (∀ a, A3 = some a → w.heap.size ≤ a.block) := Lib.hid (fun a ha => by
    rcases e3 with e | e
    ·
     exact NA.out a (by rw [← e]; exact ha)
    ·
     rw [e] at ha; cases ha; exact C6.out.size)
   clear o3 g3 e3 y0 y1 W6 RX OD6
   go_wp2
   go_round
   case rel => exact ⟨k + 1, n + 1, A3, c3, by omega, by go_num, by first | rfl | go_num, HL1, O3, NA3, C3⟩
   case measure => simp [RowKit.intOf]; omega
  ·
   obtain rfl : k = xs.length := by omega
   have j1 : ¬ (xs.length : Int) < (xs.length : Int) := by omega
   have e1 : es.take xs.length = es := by rw [HX.out.1, List.take_length]
   rw [e1] at HL OD
   clear e1
   have LD : Hid ((dotsE es).length ≤ 100000) := Lib.hid (by unfold dotsE; rw [List.length_map, ← HX.out.1]; exact HN.out)
   have OF := Lib.hid (paof_any wr A1 d1 (dotsE es) OD.out.reads LD.out)
   rw [HL.out] at OF
   go_wp2_with fail
   refine OF.out.mono ?_
   rintro r w5 ⟨A5, c5, rfl, ho, hA, hc⟩
   have ER2 := ER.out
   subst ER2
   have P5 := Lib.hid (And.intro ho (PC.out.trans hc))
   clear ho hA hc OF
   go_wp2
   go_ret2
   exact ⟨A5, c5, rfl, P5.out.1, P5.out.2⟩
end
section
open Go.RowKit Go.Lib


theorem putS_in {s : List EvP} {e x : EvP} (h : x ∈ putS s e) : x = e ∨ x ∈ s := by
 unfold putS at h
 rcases List.mem_append.1 h with q | q
 ·
  exact .inr (List.mem_filter.1 q).1
 ·
  rcases List.mem_append.1 q with q | q
  ·
   rcases putE_in q with r | r
   ·
    exact .inr (mem_atS.1 r).1
   ·
    exact .inl r.1
  ·
   exact .inr (List.mem_filter.1 q).1
set_option maxRecDepth 100000 in
set_option maxHeartbeats 16000000 in
theorem stput_any (w : World) (A : Option Addr) (c : Nat) (xs : List EvT) (es : List EvP) (y : EvT) (f : EvP) (h : RdK evTy w A xs.length xs) (hc : xs.length ≤ c ∧ c ≤ maxLen) (ho : xs = [] ∨ ∀ a, A = some a → a.block < w.heap.size) (hx : EvsR w xs es) (hn : xs.length ≤ 1000) (hs : ∀ e ∈ es, EvSm e ∧ e.q.length ≤ 100000) (hy : EvR w y f) (ht : EvSm f ∧ f.q.length ≤ 100000) :
  Calls Tryz.prog 11 #[.slice A xs.length c, .agg #[.int .i64 y.n, .int .i64 y.s, .string y.p, .int .i64 y.k, .int .i64 y.m, .slice y.A y.l y.c, .slice y.B y.bl y.bc]] w fun r w' => ∃ (A' : Option Addr) (c' : Nat) (zs : List EvT), r = .returned (.tuple #[.slice A' zs.length c', .int .i64 (stPut es f).1]) ∧ EsF w' w.heap.size w'.heap.size A' c' zs (stPut es f).2 ∧ Chg [] w w' := by
 obtain ⟨R, hR⟩ : ∃ R, stPut es f = R := ⟨_, rfl⟩
 rw [hR]
 have HR := Lib.hid hR
 obtain ⟨w1, hw1, c1, b1⟩ := news1 w (.cells #[.int .i64 y.n, .int .i64 y.s, .string y.p, .int .i64 y.k, .int .i64 y.m, .slice y.A y.l y.c, .slice y.B y.bl y.bc] 30)
 have W1 := Lib.hid hw1
 have C1 := Lib.hid c1
 have B1 := Lib.hid b1
 have HA := Lib.hid (h.chg c1 (by simp))
 have HX := Lib.hid (hx.chg c1)
 have HC := Lib.hid hc
 have HN := Lib.hid hn
 have HS := Lib.hid hs
 have HY := Lib.hid (hy.chg c1)
 have HT := Lib.hid ht
 have CK := Lib.hid (stcheck_any w1 A c xs es (h.chg c1 (by simp)) hc.1 (ho.imp id (fun q a ha => Nat.lt_of_lt_of_le (q a ha) c1.size)) (hx.chg c1) (by omega) (fun e he => (hs e he).1))
 clear hw1 c1 b1 h hx hc hn hs hy ht ho hR
 go_enter Tryz.func11, Tryz.ntmps11
 go_upto_region 1 with fail
 rw [← W1.out]
 obtain ⟨g1, hg1⟩ : ∃ g, w.heap.size = g := ⟨_, rfl⟩
 rw [hg1] at B1 ⊢
 clear W1
 go_wp2_with fail
 refine CK.out.mono ?_
 rintro r w2 ⟨rfl, hc⟩
 have C2 := Lib.hid hc
 clear hc CK
 have NO2 : Hid (¬ (StOk es ∧ chkEv f = 0) → R = (2, [])) := Lib.hid (fun q => by rw [← HR.out]; unfold stPut; rw [if_pos q])
 rcases stE_two es with e1 | e1
 rotate_left
 ·
  have ER := NO2.out (fun q => by rw [stE_zero.2 q.1] at e1; cases e1)
  subst ER
  rw [e1]
  clear e1 NO2 HR
  go_wp2
  go_ret2
  exact ⟨none, 0, [], rfl, EsF.nil _ _ _, C1.out.trans C2.out⟩
 have SA := Lib.hid (stE_zero.1 e1)
 rw [e1]
 clear e1
 have CELLY : Hid (∀ w', Chg [] w1 w' → (w'.cell? ⟨g1, 0, none⟩ = some (.int .i64 y.n) ∧ w'.cell? ⟨g1, 1, none⟩ = some (.int .i64 y.s) ∧ w'.cell? ⟨g1, 2, none⟩ = some (.string y.p) ∧ w'.cell? ⟨g1, 3, none⟩ = some (.int .i64 y.k) ∧ w'.cell? ⟨g1, 4, none⟩ = some (.int .i64 y.m) ∧ w'.cell? ⟨g1, 5, none⟩ = some (.slice y.A y.l y.c) ∧ w'.cell? ⟨g1, 6, none⟩ = some (.slice y.B y.bl y.bc))) := Lib.hid (fun w' hc => by
  have b := hc.at_ B1.out (by simp)
  exact ⟨cell_of b 0, cell_of b 1, cell_of b 2, cell_of b 3, cell_of b 4, cell_of b 5, cell_of b 6⟩)
 obtain ⟨y0, y1, y2, y3, y4, y5, y6⟩ := CELLY.out w2 C2.out
 go_wp2_with fail
 clear y0 y1 y2 y3 y4 y5 y6
 refine (evcheck_any w2 y f (HY.out.chg C2.out) HT.out.1).mono ?_
 rintro r w3 ⟨rfl, hc⟩
 have C3 := Lib.hid (C2.out.trans hc)
 clear hc C2
 rcases chkEv_two f with e1 | e1
 rotate_left
 ·
  have ER := NO2.out (fun q => by rw [q.2] at e1; cases e1)
  subst ER
  rw [e1]
  clear e1 NO2 HR
  go_wp2
  go_ret2
  exact ⟨none, 0, [], rfl, EsF.nil _ _ _, C1.out.trans C3.out⟩
 have FK := Lib.hid e1
 rw [e1]
 clear e1 NO2
 obtain ⟨y0, y1, y2, y3, y4, y5, y6⟩ := CELLY.out w3 C3.out
 go_wp2_with fail
 clear y0 y1 y2 y3 y4 y5 y6
 refine (stputf_any w3 A c xs es y f (HA.out.chg C3.out (by simp)) HC.out (HX.out.chg C3.out) HN.out HS.out (HY.out.chg C3.out) HT.out SA.out.1 (stOk_at SA.out f.p) FK.out).mono ?_
 rintro r w4 ⟨A4, c4, zs, rfl, hcp, hr, he, hc⟩
 have R4 := Lib.hid hr
 have C4 := Lib.hid (C3.out.trans hc)
 clear hcp hr hc
 rcases hel : elseE es f with _ | _
 ·
  have ER : R = (0, putS es f) := by
   rw [← HR.out]
   exact stPut_yes SA.out FK.out hel
  rw [hel, if_neg (by decide : ¬ (false = true))] at he
  rw [if_neg (by decide : ¬ (false = true))]
  have E4 : Hid (EvsR w4 zs (putS es f)) := Lib.hid (by simpa using he)
  subst ER
  clear he hel HR
  have FE := Lib.hid (frevents_any w4 A4 c4 zs (putS es f) R4.out E4.out (by have a := E4.out.1; have b := elseE_len es f; have d := HX.out.1; have := HN.out; omega) (fun e he => by
   rcases putS_in he with q | q
   ·
    rw [q]; exact ⟨HT.out.1.2.1, HT.out.2⟩
   ·
    exact ⟨(HS.out e q).1.2.1, (HS.out e q).2⟩))
  go_wp2_with fail
  refine FE.out.mono ?_
  rintro r w5 ⟨A5, c5, us, rfl, hl, he, hc⟩
  have P5 := Lib.hid (And.intro (he.low (lo' := g1) (by rw [← hg1]; exact (C1.out.trans C4.out).size)) (C1.out.trans (C4.out.trans hc)))
  clear hl he hc FE
  go_wp2
  go_ret2
  exact ⟨A5, c5, us, rfl, P5.out.1, P5.out.2⟩
 ·
  have ER : R = (7, []) := by
   rw [← HR.out]
   unfold stPut
   rw [if_neg (fun q => q ⟨SA.out, FK.out⟩), if_pos hel]
  rw [hel, if_pos (rfl : true = true)] at he
  rw [if_pos (rfl : true = true)]
  have E4 : Hid (EvsR w4 zs []) := Lib.hid (by simpa using he)
  subst ER
  clear he hel HR
  have FE := Lib.hid (frevents_any w4 A4 c4 zs [] R4.out E4.out (by have a : zs.length = 0 := E4.out.1; omega) (by simp))
  go_wp2_with fail
  refine FE.out.mono ?_
  rintro r w5 ⟨A5, c5, us, rfl, hl, he, hc⟩
  have P5 := Lib.hid (And.intro (he.low (lo' := g1) (by rw [← hg1]; exact (C1.out.trans C4.out).size)) (C1.out.trans (C4.out.trans hc)))
  clear hl he hc FE
  go_wp2
  go_ret2
  exact ⟨A5, c5, us, rfl, P5.out.1, P5.out.2⟩
set_option maxRecDepth 100000 in
set_option maxHeartbeats 16000000 in
theorem stjoin_any (w : World) (A B : Option Addr) (c d : Nat) (xs ys : List EvT) (es fs : List EvP) (h : RdK evTy w A xs.length xs) (h' : RdK evTy w B ys.length ys) (hc : (xs.length ≤ c ∧ c ≤ maxLen) ∧ ys.length ≤ d) (ho : (xs = [] ∨ ∀ a, A = some a → a.block < w.heap.size) ∧ (ys = [] ∨ ∀ a, B = some a → a.block < w.heap.size)) (hx : EvsR w xs es) (hy : EvsR w ys fs) (hn : xs.length + ys.length ≤ 1000) (hs : ∀ e ∈ es, EvSm e ∧ e.q.length ≤ 100000) (ht : ∀ e ∈ fs, EvSm e ∧ e.q.length ≤ 100000) :
  Calls Tryz.prog 13 #[.slice A xs.length c, .slice B ys.length d] w fun r w' => ∃ (A' : Option Addr) (c' : Nat) (zs : List EvT), r = .returned (.tuple #[.slice A' zs.length c', .int .i64 (stJoin es fs).1]) ∧ EsF w' w.heap.size w'.heap.size A' c' zs (stJoin es fs).2 ∧ Chg [] w w' := by
 obtain ⟨R, hR⟩ : ∃ R, stJoin es fs = R := ⟨_, rfl⟩
 rw [hR]
 have HR := Lib.hid hR
 have HA := Lib.hid h
 have HB := Lib.hid h'
 have HC := Lib.hid hc
 have HO := Lib.hid ho
 have HX := Lib.hid hx
 have HY := Lib.hid hy
 have HN := Lib.hid hn
 have HS := Lib.hid hs
 have HT := Lib.hid ht
 clear h h' hc ho hx hy hn hs ht hR
 have NO2 : Hid (¬ (StOk es ∧ StOk fs) → R = (2, [])) := Lib.hid (fun q => by rw [← HR.out]; unfold stJoin; rw [if_neg q])
 go_enter Tryz.func13, Tryz.ntmps13
 go_wp2_with fail
 refine (stcheck_any w A c xs es HA.out HC.out.1.1 HO.out.1 HX.out (by have := HN.out; omega) (fun e he => (HS.out e he).1)).mono ?_
 rintro r w1 ⟨rfl, hc⟩
 have C1 := Lib.hid hc
 clear hc
 rcases stE_two es with e1 | e1
 rotate_left
 ·
  have ER := NO2.out (fun q => by rw [stE_zero.2 q.1] at e1; cases e1)
  subst ER
  rw [e1]
  clear e1 NO2 HR
  go_wp2
  go_ret2
  exact ⟨none, 0, [], rfl, EsF.nil _ _ _, C1.out⟩
 have SA := Lib.hid (stE_zero.1 e1)
 rw [e1]
 clear e1
 go_wp2_with fail
 refine (stcheck_any w1 B d ys fs (HB.out.chg C1.out (by simp)) HC.out.2 (HO.out.2.imp id (fun q a ha => Nat.lt_of_lt_of_le (q a ha) C1.out.size)) (HY.out.chg C1.out) (by have := HN.out; omega) (fun e he => (HT.out e he).1)).mono ?_
 rintro r w2 ⟨rfl, hc⟩
 have C2 := Lib.hid (C1.out.trans hc)
 clear hc C1
 rcases stE_two fs with e1 | e1
 rotate_left
 ·
  have ER := NO2.out (fun q => by rw [stE_zero.2 q.2] at e1; cases e1)
  subst ER
  rw [e1]
  clear e1 NO2 HR
  go_wp2
  go_ret2
  exact ⟨none, 0, [], rfl, EsF.nil _ _ _, C2.out⟩
 have SB := Lib.hid (stE_zero.1 e1)
 have RF : Hid (R = stFold es fs) := Lib.hid (by rw [← HR.out]; unfold stJoin; rw [if_pos ⟨SA.out, SB.out⟩])
 rw [e1]
 clear e1 NO2 HR
 go_wp2
 go_loopw [6, 7, 21] (fun v6 v7 v21 wr => ∃ (k : Nat) (A1 : Option Addr) (d1 : Nat) (zs : List EvT) (cs : List EvP) (er : Int), k ≤ ys.length ∧ v21 = .int .i64 (k : Int) ∧ v6 = .slice A1 zs.length d1 ∧ v7 = .int .i64 er ∧ Hid (R = stFold cs (fs.drop k) ∧ StOk cs ∧ cs.length ≤ es.length + k ∧ ∀ e ∈ cs, EvSm e ∧ e.q.length ≤ 100000) ∧ Hid (zs.length ≤ d1 ∧ d1 ≤ maxLen) ∧ Hid (RdK evTy wr A1 zs.length zs) ∧ Hid (EvsR wr zs cs) ∧ Hid (Chg [] w wr)) (fun _ _ v21 _ => ys.length - (RowKit.intOf v21).toNat)
 case atStart => exact ⟨0, A, c, xs, es, 0, Nat.zero_le _, rfl, rfl, rfl, Lib.hid ⟨RF.out, SA.out, by omega, HS.out⟩, Lib.hid HC.out.1, Lib.hid (HA.out.chg C2.out (by simp)), Lib.hid (HX.out.chg C2.out), C2⟩
 case round =>
  obtain ⟨k, A1, d1, zs, cs, er, hk, rfl, rfl, rfl, CS, CP, RZ, EZ, PC⟩ := hrel
  have j0 : (0 : Int) ≤ (k : Int) := by omega
  by_cases hlt : k < ys.length
  ·
   have j1 : (k : Int) < (ys.length : Int) := by omega
   have j3 : IntKind.i64.wrap ((k : Int) + 1) = (k : Int) + 1 := IntWalk.i64_in _ (by have := HN.out; omega)
   obtain ⟨g3, o3, eA, _⟩ := HB.out.line (by omega)
   subst eA
   obtain ⟨x, e, ex, ee, rx⟩ := HY.out.at_ hlt
   obtain ⟨z0, z1, z2, z3, z4, z5, z6⟩ := evCells (HB.out.chg PC.out (by simp)) ex
   have EE := Lib.hid ee
   have RX1 := Lib.hid rx
   have EM := Lib.hid (List.mem_of_getElem? ee)
   clear ex ee rx
   obtain ⟨w5, hw5, c5, b5⟩ := news1 wr (.cells #[.int .i64 x.n, .int .i64 x.s, .string x.p, .int .i64 x.k, .int .i64 x.m, .slice x.A x.l x.c, .slice x.B x.bl x.bc] 30)
   have W5 := Lib.hid hw5
   have CALL := Lib.hid (stputf_any w5 A1 d1 zs cs x e (RZ.out.chg c5 (by simp)) CP.out (EZ.out.chg c5) (by have a := EZ.out.1; have b := CS.out.2.2.1; have d := HX.out.1; have := HN.out; omega) CS.out.2.2.2 (RX1.out.chg (PC.out.trans c5)) (HT.out e EM.out) CS.out.2.1.1 (stOk_at CS.out.2.1 e.p) (stOk_chk SB.out e EM.out))
   replace PC := Lib.hid (PC.out.trans c5)
   have y0 := cell_of b5 0
   have y1 := cell_of b5 1
   have y2 := cell_of b5 2
   have y3 := cell_of b5 3
   have y4 := cell_of b5 4
   have y5 := cell_of b5 5
   have y6 := cell_of b5 6
   simp only [List.getElem?_toArray, List.getElem?_cons_succ, List.getElem?_cons_zero] at y0 y1 y2 y3 y4 y5 y6
   have DK : Hid (fs.drop k = e :: fs.drop (k + 1)) := Lib.hid (by
    obtain ⟨l, q⟩ := List.getElem?_eq_some_iff.1 EE.out
    rw [List.drop_eq_getElem_cons l, q])
   clear hw5 c5 b5
   go_upto_region 7 with fail
   rw [← W5.out]
   generalize wr.heap.size = g6 at *
   clear W5 z0 z1 z2 z3 z4 z5 z6
   go_wp2_with fail
   clear y0 y1 y2 y3 y4 y5 y6
   refine CALL.out.mono ?_
   rintro r w7 ⟨A7, c7, us, rfl, hcp, hr, he, hc⟩
   replace PC := Lib.hid (PC.out.trans hc)
   have CP7 := Lib.hid hcp
   have R7 := Lib.hid hr
   clear hcp hr hc CALL RZ EZ
   rcases hel : elseE cs e with _ | _
   ·
    have CS1 : Hid (R = stFold (putS cs e) (fs.drop (k + 1)) ∧ StOk (putS cs e) ∧ (putS cs e).length ≤ es.length + (k + 1) ∧ ∀ x ∈ putS cs e, EvSm x ∧ x.q.length ≤ 100000) := Lib.hid ⟨by
      have q := CS.out.1
      rw [DK.out] at q
      unfold stFold at q
      rwa [hel, if_neg (by decide)] at q, stOk_put CS.out.2.1 (stOk_chk SB.out e EM.out) hel, by have a := elseE_len cs e; have b := CS.out.2.2.1; omega, fun x hx => by
      rcases putS_in hx with q | q
      ·
       rw [q]; exact HT.out e EM.out
      ·
       exact CS.out.2.2.2 x q⟩
    rw [hel, if_neg (by decide : ¬ (false = true))] at he
    rw [if_neg (by decide : ¬ (false = true))]
    have E7 : Hid (EvsR w7 us (putS cs e)) := Lib.hid (by simpa using he)
    clear he hel
    go_wp2
    go_round
    case rel => exact ⟨k + 1, A7, c7, us, putS cs e, 0, by omega, by go_num, rfl, rfl, CS1, CP7, R7, E7, PC⟩
    case measure => simp [RowKit.intOf]; omega
   ·
    have ER : R = (7, []) := by
     have q := CS.out.1
     rw [DK.out] at q
     unfold stFold at q
     rwa [if_pos hel] at q
    rw [if_pos (rfl : true = true)]
    clear he hel CS RF
    subst ER
    go_wp2
    go_ret2
    exact ⟨none, 0, [], rfl, EsF.nil _ _ _, PC.out⟩
  ·
   obtain rfl : k = ys.length := by omega
   have j1 : ¬ (ys.length : Int) < (ys.length : Int) := by omega
   have ER : R = (0, cs) := by
    have q := CS.out.1
    rw [HY.out.1, List.drop_length] at q
    exact q
   have FE := Lib.hid (frevents_any wr A1 d1 zs cs RZ.out EZ.out (by have a := EZ.out.1; have b := CS.out.2.2.1; have d := HX.out.1; have := HN.out; omega) (fun e he => ⟨(CS.out.2.2.2 e he).1.2.1, (CS.out.2.2.2 e he).2⟩))
   clear CS RF
   subst ER
   go_wp2_with fail
   refine FE.out.mono ?_
   rintro r w5 ⟨A5, c5, us, rfl, hl, he, hc⟩
   have P5 := Lib.hid (And.intro (he.low PC.out.size) (PC.out.trans hc))
   clear hl he hc FE
   go_wp2
   go_ret2
   exact ⟨A5, c5, us, rfl, P5.out.1, P5.out.2⟩
end
section
open Go.RowKit

theorem row_put (wr : World) (s m : Nat) (c : UInt8) (full : List UInt8) (t : TypeId) (h : wr.heap[s]? = some (.cells (full.map bv).toArray t (0, 0))) :
  (wr.setCell ⟨s, m, none⟩ (.int .u8 (c.toNat : Int))).heap[s]? = some (.cells ((full.set m c).map bv).toArray t (0, 0)) := by
 rw [heap_setCell_same wr s m _ _ _ h]
 simp [bv, List.map_set]
theorem Bs.rowAt {w : World} {s m : Nat} {full : List UInt8} {t : TypeId} {fr : Nat × Nat} (h : w.heap[s]? = some (.cells (full.map bv).toArray t fr)) : Bs w (some ⟨s, m, none⟩) (full.length - m) (full.drop m) := by
 refine ⟨by simp, fun j c hj => ⟨_, rfl, ?_⟩⟩
 rw [List.getElem?_drop] at hj
 have e : (⟨s, m, none⟩ : Addr).add j = ⟨s, m + j, none⟩ := by cases j <;> simp [Addr.add]
 rw [e, cell_of h]
 simp [hj]
end
section
open Go.RowKit

def fnv1 (s : Nat) (x : UInt8) : Nat := ((s ^^^ x.toNat) * 1099511628211) % 18446744073709551616
def fnv (s : Nat) (xs : List UInt8) : Nat := xs.foldl fnv1 s
def fnv0 : Nat := 14695981039346656037
def fnvS (xs : List UInt8) : Nat := fnv fnv0 xs
theorem fnv1_lt (s : Nat) (x : UInt8) : fnv1 s x < 18446744073709551616 := Nat.mod_lt _ (by decide)
theorem fnv_lt (s : Nat) (xs : List UInt8) (h : s < 18446744073709551616) : fnv s xs < 18446744073709551616 := by
 induction xs generalizing s with
 | nil => exact h
 | cons x xs ih => exact ih _ (fnv1_lt s x)
theorem foldl_snoc {α β : Type} (f : α → β → α) (s : α) (xs : List β) (x : β) : (xs ++ [x]).foldl f s = f (xs.foldl f s) x := by simp
theorem fnv_snoc (s : Nat) (xs : List UInt8) (x : UInt8) : fnv s (xs ++ [x]) = fnv1 (fnv s xs) x := foldl_snoc fnv1 s xs x
theorem fnv_take (s : Nat) (xs : List UInt8) (k : Nat) (h : k < xs.length) : fnv s (xs.take (k + 1)) = fnv1 (fnv s (xs.take k)) (xs.getD k 0) := by
 have : xs.take (k + 1) = xs.take k ++ [xs.getD k 0] := by
  rw [List.take_succ_eq_append_getElem h]
  simp [List.getD, h]
 rw [this, fnv_snoc]
theorem fnv_step_any (s C : Nat) (x : UInt8) (h : s < 18446744073709551616) : IntKind.u64.wrap (bits .xor .u64 (s : Int) (IntKind.u64.wrap (x.toNat : Int)) * (C : Int)) = ((((s ^^^ x.toNat) * C) % 18446744073709551616 : Nat) : Int) := by
 have hx := x.toNat_lt
 have e : IntKind.u64.wrap (x.toNat : Int) = (x.toNat : Int) := by rw [IntKind.wrap_u64]; omega
 rw [e, bits_xor_u64_nat s x.toNat h (by omega), IntKind.wrap_u64]
 generalize s ^^^ x.toNat = y
 rw [← Int.natCast_mul]
 generalize y * C = z
 omega
theorem fnv_step (s : Nat) (x : UInt8) (h : s < 18446744073709551616) : IntKind.u64.wrap (bits .xor .u64 (s : Int) (IntKind.u64.wrap (x.toNat : Int)) * 1099511628211) = ((fnv1 s x : Nat) : Int) := fnv_step_any s 1099511628211 x h

theorem Bs.line {w : World} {A : Option Addr} {n : Nat} {xs : List UInt8} (h : Bs w A n xs) (h0 : 0 < xs.length) : ∃ g o, A = some ⟨g, o, none⟩ ∧ ∀ j, j < xs.length → w.cell? ⟨g, o + j, none⟩ = some (.int .u8 ((xs.getD j 0).toNat : Int)) := by
 obtain ⟨a, rfl, hc⟩ := h.cells 0 _ (List.getElem?_eq_getElem h0)
 have hsp := World.cell?_spot hc
 obtain ⟨g, o, sp⟩ := a
 have hsp : sp = none := by simpa [Addr.add] using hsp
 subst hsp
 refine ⟨g, o, rfl, fun j hj => ?_⟩
 obtain ⟨a', e, hcj⟩ := h.cells j _ (List.getElem?_eq_getElem hj)
 cases e
 rw [add_lit] at hcj
 rw [hcj]
 simp [bv, List.getD, hj]

set_option maxHeartbeats 1000000 in
theorem through_any (w : World) (s : Nat) (hs : s < 18446744073709551616) (A : Option Addr) (n c : Nat) (xs : List UInt8) (h : Bs w A n xs) (hn : n ≤ 140737488351232) :
  Calls Tryz.prog 141 #[.int .u64 (s : Int), .slice A n c] w fun e w' => e = .returned (.int .u64 (fnv s xs : Int)) ∧ w = w' := by
 have hl := h.len
 subst hl
 have HB := Lib.hid h
 have HS := Lib.hid hs
 clear h hs
 go_enter Tryz.func141, Tryz.ntmps141
 go_wp2
 go_loop [0, 9] (fun v i => ∃ k : Nat, k ≤ xs.length ∧ i = .int .i64 k ∧ v = .int .u64 (fnv s (xs.take k) : Int)) (fun _ i => xs.length - (intOf i).toNat)
 case atStart => exact ⟨0, by omega, rfl, rfl⟩
 case round =>
  obtain ⟨k, hk, rfl, rfl⟩ := hrel
  by_cases hlt : k < xs.length
  ·
   obtain ⟨g, o, rfl, hc⟩ := HB.out.line (by omega)
   have hck := hc k hlt
   have hst := fnv_step (fnv s (xs.take k)) (xs.getD k 0) (fnv_lt _ _ HS.out)
   have ht := fnv_take s xs k hlt
   have HT := Lib.hid ht
   have HSt := Lib.hid hst
   clear hc ht hst
   generalize fnv s (xs.take k) = f at *
   generalize xs.getD k 0 = x at *
   go_wp2
   go_round
   case rel => exact ⟨k + 1, by omega, by go_num, by rw [HSt.out, HT.out]⟩
   case measure => simp [intOf]; omega
  ·
   go_wp2
   go_ret
   have : k = xs.length := by omega
   subst this
   exact ⟨by rw [List.take_length]; rfl, rfl⟩
end
section
open Go.RowKit Go.Shelf
attribute [local go_sem] Oper.semAt_some

structure U64s (w : World) (A : Option Addr) (n : Nat) (us : List Nat) : Prop where
 len : us.length = n
 cells : ∀ (j u : Nat), us[j]? = some u → ∃ a, A = some a ∧ w.cell? (a.add j) = some (.int .u64 (u : Int))
 range : ∀ u ∈ us, u < 18446744073709551616
theorem U64s.line {w : World} {A : Option Addr} {n : Nat} {us : List Nat} (h : U64s w A n us) (h0 : 0 < n) : ∃ g o, A = some ⟨g, o, none⟩ ∧ ∀ j, j < n → w.cell? ⟨g, o + j, none⟩ = some (.int .u64 ((us.getD j 0 : Nat) : Int)) := by
 have hl := h.len
 obtain ⟨a, rfl, hc⟩ := h.cells 0 _ (List.getElem?_eq_getElem (by omega))
 have hsp := World.cell?_spot hc
 obtain ⟨g, o, sp⟩ := a
 have hsp : sp = none := by simpa [Addr.add] using hsp
 subst hsp
 refine ⟨g, o, rfl, fun j hj => ?_⟩
 obtain ⟨a', e, hcj⟩ := h.cells j _ (List.getElem?_eq_getElem (by omega))
 cases e
 rw [add_lit] at hcj
 rw [hcj]
 simp [List.getD_eq_getElem?_getD, List.getElem?_eq_getElem (show j < us.length by omega)]
def byteOf (u i : Nat) : UInt8 := UInt8.ofNat (u / 2 ^ (56 - 8 * i) % 256)
def eight (u : Nat) : List UInt8 := (List.range 8).map (byteOf u)
def mixB (us : List Nat) : List UInt8 := us.flatMap eight
def rowOf (u k : Nat) : List UInt8 := (List.range k).map (byteOf u) ++ List.replicate (8 - k) 0
theorem rowOf_len (u k : Nat) (h : k ≤ 8) : (rowOf u k).length = 8 := by simp [rowOf]; omega
theorem rowOf_set (u k : Nat) (h : k < 8) : (rowOf u k).set k (byteOf u k) = rowOf u (k + 1) := by
 unfold rowOf
 rw [List.set_append_right _ _ (by simp), List.range_succ, List.map_append]
 obtain ⟨m, hm⟩ : ∃ m, 8 - k = m + 1 := ⟨7 - k, by omega⟩
 have : 8 - (k + 1) = m := by omega
 rw [hm, this]
 simp [List.replicate_succ]
theorem byteOf_int (u i : Nat) : (u : Int) / 2 ^ (56 - 8 * i) % 256 = ((byteOf u i).toNat : Int) := by
 unfold byteOf
 rw [UInt8.toNat_ofNat', show (2 : Nat) ^ 8 = 256 by rfl, Nat.mod_mod]
 simp

set_option maxRecDepth 100000 in
set_option maxHeartbeats 2000000 in
theorem pieces1_gives (n : Nat) (l n₁ Bs g o len cap : Nat) (us : List Nat) (hreach : len * 8 ≤ 140737488351232) (hlen : us.length = len) (hr : ∀ u ∈ us, u < 18446744073709551616)
  (J : List (Nat × List UInt8) → World → Prop) (W : World) (hJ : ∀ pre A B, J pre A → Below W.heap.size A B → J pre B) (hb : Bs < n₁) (hg : g < n₁) (hn₁ : n₁ ≤ W.heap.size)
  (hY : ∀ pre x W1, J pre W1 → (W1.heap[x.1]? = some (.cells (x.2.map bv).toArray 184 (0, 0)) ∧ x.2.length = 8) → YieldAt Fence.wide n Tryz.prog l #[.slice (some ⟨x.1, 0, none⟩) 8 8] W1 fun e W' => e = .returned (.bool true) ∧ J (pre ++ [x]) W' ∧ Below n₁ W1 W')
  (hBs : W.cell? ⟨Bs, 0, none⟩ = some (.slice (some ⟨g, o, none⟩) len cap)) (hc : ∀ j, j < len → W.cell? ⟨g, o + j, none⟩ = some (.int .u64 ((us.getD j 0 : Nat) : Int))) (h0 : J [] W) :
  CallsIn Fence.wide (n + 1) Tryz.prog 192 #[.func (.yield l) #[] #[], .pointer (some ⟨Bs, 0, none⟩)] W fun e W' => (∃ v, e = .returned v) ∧ ∃ xs : List (Nat × List UInt8), xs.map (·.2) = us.map eight ∧ J xs W' := by
 have h1 : 1 ≤ n + 1 := by omega
 have hro : Fence.wide.round = none := rfl
 refine callsIn_of_wp Tryz.func192 rfl trivial ?_ hro
 simp only [Tryz.ntmps192, List.size_toArray, List.length_cons, List.length_nil, Nat.reduceAdd, Nat.reduceSub, Array.replicate_succ, Array.replicate_zero, List.push_toArray, List.append_toArray, List.nil_append, List.cons_append]
 gi_wp2
 gi_loopw [9] (fun i wr => ∃ (k : Nat) (xs : List (Nat × List UInt8)), k ≤ len ∧ i = .int .i64 k ∧ xs.map (·.2) = (us.take k).map eight ∧ J xs wr ∧ W.heap.size ≤ wr.heap.size ∧ Below n₁ W wr)
  (fun i _ => len - (intOf i).toNat)
 case atStart => exact ⟨0, [], Nat.zero_le _, rfl, rfl, h0, Nat.le_refl _, Below.refl _ _⟩
 case round =>
  obtain ⟨k, xs, hk, rfl, hxs, hJs, hsz, hnx⟩ := hrel
  by_cases hlt : k < len
  ·
   have hcx := (hnx.cell (p := ⟨g, o + k, none⟩) hg).trans (hc k hlt)
   obtain ⟨u, hu⟩ : ∃ u, us.getD k 0 = u := ⟨_, rfl⟩
   rw [hu] at hcx
   gi_wp2
   obtain ⟨wo, hwo⟩ : ∃ wo, wo = wr := ⟨_, rfl⟩
   subst hwo
   have hrow0 : (wo.alloc (.cells #[.int .u8 0, .int .u8 0, .int .u8 0, .int .u8 0, .int .u8 0, .int .u8 0, .int .u8 0, .int .u8 0] 184)).heap[wo.heap.size]? = some (.cells ((rowOf u 0).map bv).toArray 184 (0, 0)) := heap_alloc_new wo _
   have hbel0 := (Below.refl wo.heap.size wo).alloc (Nat.le_refl _) (.cells #[.int .u8 0, .int .u8 0, .int .u8 0, .int .u8 0, .int .u8 0, .int .u8 0, .int .u8 0, .int .u8 0] 184)
   obtain ⟨s, hs⟩ : ∃ s, s = wo.heap.size := ⟨_, rfl⟩
   rw [← hs] at hrow0 hbel0 ⊢
   have HS := Lib.hid hs
   clear hs
   gi_loopw [13] (fun i wi => ∃ j : Nat, j ≤ 8 ∧ i = .int .i64 j ∧ wi.heap[s]? = some (.cells ((rowOf u j).map bv).toArray 184 (0, 0)) ∧ Below s wo wi)
    (fun i _ => 8 - (intOf i).toNat)
   case atStart => exact ⟨0, by omega, rfl, hrow0, hbel0⟩
   case round =>
    obtain ⟨j, hj, rfl, hrow, hbel⟩ := hrel
    by_cases hj8 : j < 8
    ·
     have hz : wr.cell? ⟨s, j, none⟩ = some (.int .u8 (((rowOf u j).getD j 0).toNat : Int)) := by
      rw [cell_of hrow]
      have : j < (rowOf u j).length := by rw [rowOf_len u j hj]; exact hj8
      simp [List.getElem?_eq_getElem this, List.getD_eq_getElem?_getD, bv]
     have hf := free_of hrow j
     have HRow := Lib.hid hrow
     clear hrow
     gi_wp2
     rw [byteOf_int]
     refine ⟨⟨j + 1, by omega, by go_num, ?_, hbel.setCell (p := ⟨s, j, none⟩) (Nat.le_refl _) _⟩, by simp [intOf]; omega⟩
     rw [← rowOf_set u j hj8]
     exact row_put wr s j _ _ _ HRow.out
    ·
     obtain rfl : j = 8 := by omega
     have hJ8 := hJ xs wo wr hJs ⟨hbel.os, hbel.tape, hbel.output, hbel.size, fun i hi => hbel.block i (by have := HS.out; omega)⟩
     have hrow8 : wr.heap[s]? = some (.cells ((eight u).map bv).toArray 184 (0, 0)) := by
      have : rowOf u 8 = eight u := by simp [rowOf, eight]
      rw [← this]; exact hrow
     obtain ⟨fn, tmps, assign, body, hy, hR⟩ := hY xs (s, eight u) wr hJ8 ⟨hrow8, by simp [eight]⟩
     dsimp only at hy
     gi_wp2
     refine hR.mono ?_
     rintro e W3 ⟨rfl, hJ3, hk3⟩
     gi_wp2
     go_roundw
     case rel =>
      have b1 : Below n₁ W W3 := (hnx.trans ⟨hbel.os, hbel.tape, hbel.output, hbel.size, fun i hi => hbel.block i (by have := HS.out; omega)⟩).trans hk3
      refine ⟨k + 1, xs ++ [(s, eight u)], by omega, by simp, ?_, hJ3, ?_, b1⟩
      ·
       have : us.take (k + 1) = us.take k ++ [u] := by
        rw [List.take_succ_eq_append_getElem (by omega)]
        rw [← hu]
        simp [List.getD_eq_getElem?_getD, List.getElem?_eq_getElem (show k < us.length by omega)]
       rw [this]
       simp [hxs]
      ·
       have := b1.size
       have := hbel.size
       omega
     case measure => simp [intOf]; omega
  ·
   obtain rfl : k = len := by omega
   gi_wp2
   go_end0
   exact ⟨⟨_, rfl⟩, xs, by rw [hxs, ← hlen, List.take_length], hJs⟩
set_option maxRecDepth 100000 in
set_option maxHeartbeats 1000000 in
theorem pieces1_none (n : Nat) (l Bs : Nat) (A : Option Addr) (cap : Nat) (J : List (Nat × List UInt8) → World → Prop) (W : World) (hBs : W.cell? ⟨Bs, 0, none⟩ = some (.slice A 0 cap)) (h0 : J [] W) :
  CallsIn Fence.wide (n + 1) Tryz.prog 192 #[.func (.yield l) #[] #[], .pointer (some ⟨Bs, 0, none⟩)] W fun e W' => (∃ v, e = .returned v) ∧ ∃ xs : List (Nat × List UInt8), xs.map (·.2) = ([] : List Nat).map eight ∧ J xs W' := by
 have hro : Fence.wide.round = none := rfl
 refine callsIn_of_wp Tryz.func192 rfl trivial ?_ hro
 simp only [Tryz.ntmps192, List.size_toArray, List.length_cons, List.length_nil, Nat.reduceAdd, Nat.reduceSub, Array.replicate_succ, Array.replicate_zero, List.push_toArray, List.append_toArray, List.nil_append, List.cons_append]
 gi_wp2
 gi_loopw [9] (fun i wr => i = .int .i64 0 ∧ J [] wr) (fun _ _ => 0)
 case atStart => exact ⟨rfl, h0⟩
 case round =>
  obtain ⟨rfl, hJs⟩ := hrel
  gi_wp2
  go_end0
  exact ⟨⟨_, rfl⟩, [], rfl, hJs⟩
set_option maxHeartbeats 400000 in
theorem pieces_any (w : World) (A : Option Addr) (n c : Nat) : Calls Tryz.prog 140 #[.slice A n c] w fun e w' => e = .returned (.func (.func 192) #[] #[.pointer (some ⟨w.heap.size, 0, none⟩)]) ∧ w' = w.alloc (.cells #[.slice A n c] 89) := by
 go_enter Tryz.func140, Tryz.ntmps140
 go_wp2
 go_ret
 exact ⟨rfl, rfl⟩
theorem U64s.chg {S : List Nat} {w w' : World} {A : Option Addr} {n : Nat} {us : List Nat} (h : U64s w A n us) (hc : Chg S w w') (hn : ∀ a, A = some a → a.block ∉ S) : U64s w' A n us :=
 ⟨h.len, fun j u hj => by
  obtain ⟨a, ha, hcell⟩ := h.cells j u hj
  exact ⟨a, ha, hc.cell hcell (by rw [block_add]; exact hn a ha)⟩, h.range⟩
set_option maxRecDepth 100000 in
set_option maxHeartbeats 2000000 in
theorem foldB_pieces (w : World) (bx s0 : Nat) (hs0 : s0 < 18446744073709551616) (A : Option Addr) (n c : Nat) (us : List Nat) (h : U64s w A n us) (hn : n * 8 ≤ 140737488351232) (hbx : w.cell? ⟨bx, 0, none⟩ = some (.slice A n c)) :
  Calls Tryz.prog 139 #[.func (.func 192) #[] #[.pointer (some ⟨bx, 0, none⟩)], .int .u64 (s0 : Int), .func (.func 141) #[] #[]] w fun e w' => e = .returned (.int .u64 (fnv s0 (mixB us) : Int)) ∧ Below w.heap.size w w' := by
 have hblt := lt_of_cell hbx
 have h1 : 1 ≤ 4 := by omega
 have hro : Fence.wide.round = none := rfl
 refine (callsIn_wide (n := 4)).1 ?_
 refine callsIn_of_wp_marks Tryz.func139 rfl trivial ?_ hro
 simp only [Tryz.ntmps139, List.size_toArray, List.length_cons, List.length_nil, Nat.reduceAdd, Nat.reduceSub, Array.replicate_succ, Array.replicate_zero, List.push_toArray, List.append_toArray, List.nil_append, List.cons_append]
 gi_wp2
 obtain ⟨V, hV, hcV, h4, h5⟩ := news2 w (.cells #[.int .u64 (s0 : Int)] 142) (.cells #[.func (.func 141) #[] #[]] 147)
 rw [← hV]
 have hsV : V.heap.size = w.heap.size + 2 := by rw [hV]; simp
 have bV : Below w.heap.size w V := by rw [hV]; exact ((Below.refl _ w).alloc (Nat.le_refl _) _).alloc (by simp) _
 refine range_all (gf := 192) (lb := #[.pointer (some ⟨bx, 0, none⟩)]) rfl (enters_of Tryz.func192 (by kernel_rfl) rfl) (encs := fun x : Nat × List UInt8 => #[.slice (some ⟨x.1, 0, none⟩) 8 8]) (n₁ := w.heap.size) (by omega)
  (S := fun xs => xs.map (·.2) = us.map eight) (Ex := fun _ x W => W.heap[x.1]? = some (.cells (x.2.map bv).toArray 184 (0, 0)) ∧ x.2.length = 8) ?seq (fun _ => rfl)
  (fun pre W => (W.heap[w.heap.size]? = some (.cells #[.int .u64 (fnv s0 (pre.flatMap (·.2)) : Int)] 142 (0, 0)) ∧ W.heap[w.heap.size + 1]? = some (.cells #[.func (.func 141) #[] #[]] 147 (0, 0))) ∧ Below w.heap.size w W)
  ?keep ⟨⟨h4, h5⟩, bV⟩ ?elem
  (fun x => { tmps := #[.func (.func 192) #[] #[.pointer (some ⟨bx, 0, none⟩)], .int .u64 (s0 : Int), .func (.func 141) #[] #[], undef, .pointer (some ⟨w.heap.size, 0, none⟩), .pointer (some ⟨w.heap.size + 1, 0, none⟩), .int .u64 0, .slice (some ⟨x.1, 0, none⟩) 8 8, .func (.func 192) #[] #[.pointer (some ⟨bx, 0, none⟩)], .slice (some ⟨x.1, 0, none⟩) 8 8, undef, undef, undef, undef, undef], defers := [] }) ?assign ?body ?done
 case seq =>
  intro l J W hW hJ hY h0
  have hB : W.cell? ⟨bx, 0, none⟩ = some (.slice A n c) := (hW.cell (p := ⟨bx, 0, none⟩) (show bx < V.heap.size by omega)).trans ((bV.cell (p := ⟨bx, 0, none⟩) hblt).trans hbx)
  by_cases hz : n = 0
  ·
   subst hz
   have hu := h.len
   obtain rfl : us = [] := List.eq_nil_of_length_eq_zero hu
   exact pieces1_none 2 l bx A c J W hB h0
  ·
   obtain ⟨g, o, rfl, hcs⟩ := h.line (by omega)
   have hg : g < w.heap.size := by
    have := lt_of_cell (hcs 0 (by omega))
    simpa using this
   have hcs' : ∀ j, j < n → W.cell? ⟨g, o + j, none⟩ = some (.int .u64 ((us.getD j 0 : Nat) : Int)) := fun j hj =>
    (hW.cell (p := ⟨g, o + j, none⟩) (show g < V.heap.size by omega)).trans ((bV.cell (p := ⟨g, o + j, none⟩) hg).trans (hcs j hj))
   have hs2 := hW.size
   exact pieces1_gives 2 l w.heap.size bx g o n c us hn h.len h.range J W hJ hblt hg (by omega) hY hB hcs' h0
 case keep =>
  rintro pre A' B' ⟨⟨e4, e5⟩, b⟩ hb
  exact ⟨⟨(hb.block _ (by omega)).trans e4, (hb.block _ (by omega)).trans e5⟩, b.trans ⟨hb.os, hb.tape, hb.output, hb.size, fun k hk => hb.block k (by omega)⟩⟩
 case elem =>
  rintro pre x W l o o' hl ho ⟨hx, hx8⟩
  refine ⟨(World.putObj_heap_other ?_).trans hx, hx8⟩
  rintro rfl
  rw [hx] at hl
  cases hl
  simp [Obj.isCells] at ho
 case assign =>
  intro l x W K hK
  gi_wp2
  exact hK
 case body =>
  rintro l pre x W ⟨⟨e4, e5⟩, b⟩ ⟨hx, hx8⟩
  have c4 := cell_of e4 0
  have f4 := free_of e4 0
  have c5 := cell_of e5 0
  simp at c4 c5
  have hxB : Bs W (some ⟨x.1, 0, none⟩) 8 x.2 := by
   have := Bs.rowAt (m := 0) hx
   rw [hx8] at this
   simpa using this
  have hlt := fnv_lt s0 (pre.flatMap (·.2)) hs0
  have hstep : fnv s0 (pre.flatMap (fun x => x.2) ++ x.2) = fnv (fnv s0 (pre.flatMap (·.2))) x.2 := by simp [fnv]
  gi_wp2_with (refine ⟨trivial, ?_⟩; gi_at_call 141; refine (CallsIn.inRound l (callsIn_wide.2 (through_any _ _ hlt _ 8 8 x.2 hxB (by omega)))).mono ?_; rintro e w1 ⟨rfl, rfl⟩)
  refine ⟨KeepsOthers.setCell _ _ _, (Below.refl w.heap.size W).setCell (p := ⟨w.heap.size, 0, none⟩) (Nat.le_refl _) _, ⟨?_, ?_⟩, b.setCell (p := ⟨w.heap.size, 0, none⟩) (Nat.le_refl _) _⟩
  ·
   rw [heap_setCell_same _ _ _ _ _ _ e4]
   simp
  ·
   rw [heap_setCell_other W ⟨w.heap.size, 0, none⟩ (w.heap.size + 1) _ (by simp)]
   exact e5
 case done =>
  rintro D ys W hD hS ⟨⟨e4, _⟩, hB⟩ hK
  have c4 := cell_of e4 0
  simp at c4
  gi_wp2
  refine ⟨by simp, .inl ⟨_, _, rfl, run_takeDeferred hK, ?_⟩⟩
  refine ⟨_, results_tmp rfl _ _ _, ?_, hB.trans (belowK_b (w := w) (Nat.le_refl _) W D _ _ (by omega) hK rfl rfl)⟩
  have : ys.flatMap (·.2) = mixB us := by
   unfold mixB
   rw [List.flatMap_def, hS, ← List.flatMap_def]
  rw [this]
  rfl
set_option maxHeartbeats 400000 in
theorem mix_any (w : World) (A : Option Addr) (n c : Nat) (us : List Nat) (h : U64s w A n us) (hn : n * 8 ≤ 140737488351232) :
  Calls Tryz.prog 71 #[.slice A n c] w fun e w' => e = .returned (.int .u64 (fnvS (mixB us) : Int)) ∧ Below w.heap.size w w' := by
 obtain ⟨V, hV, hcV, hb⟩ := news1 w (.cells #[.slice A n c] 89)
 have hsV : V.heap.size = w.heap.size + 1 := by rw [hV]; simp
 have bV : Below w.heap.size w V := by rw [hV]; exact (Below.refl _ w).alloc (Nat.le_refl _) _
 have hF := foldB_pieces V w.heap.size fnv0 (by decide) A n c us (h.chg hcV (by simp)) hn (by rw [cell_of hb]; rfl)
 have HF := Lib.hid hF
 have HV := Lib.hid hV
 have HB := Lib.hid bV
 have HS := Lib.hid hsV
 clear h hV hcV hb hF bV hsV
 go_enter Tryz.func71, Tryz.ntmps71
 go_wp2_with (first
  | (go_at_call 140; refine (pieces_any _ _ _ _).mono ?_; rintro e w1 ⟨rfl, hw1⟩; rw [← HV.out] at hw1; subst hw1)
  | (go_at_call 139; refine HF.out.mono ?_; rintro e w2 ⟨rfl, hb2⟩))
 go_ret
 exact ⟨rfl, HB.out.trans ⟨hb2.os, hb2.tape, hb2.output, hb2.size, fun k hk => hb2.block k (by have := HS.out; omega)⟩⟩
end
section
open Go.RowKit Go.WideShapes Go.ChangeShapes Go.Deep
structure Is (w : World) (A : Option Addr) (n : Nat) (zs : List Int) : Prop where
 len : zs.length = n
 cells : ∀ (j : Nat) (z : Int), zs[j]? = some z → ∃ a, A = some a ∧ w.cell? (a.add j) = some (.int .i64 z)
theorem Is.chg {S : List Nat} {w w' : World} {A : Option Addr} {n : Nat} {zs : List Int} (h : Is w A n zs) (hc : Chg S w w') (hn : ∀ a, A = some a → a.block ∉ S) : Is w' A n zs :=
 ⟨h.len, fun j u hj => by
  obtain ⟨a, ha, hcell⟩ := h.cells j u hj
  exact ⟨a, ha, hc.cell hcell (by rw [block_add]; exact hn a ha)⟩⟩
theorem Is.line {w : World} {A : Option Addr} {n : Nat} {zs : List Int} (h : Is w A n zs) (h0 : 0 < n) : ∃ g o, A = some ⟨g, o, none⟩ ∧ ∀ j, j < n → w.cell? ⟨g, o + j, none⟩ = some (.int .i64 (zs.getD j 0)) := by
 have hl := h.len
 obtain ⟨a, rfl, hc⟩ := h.cells 0 _ (List.getElem?_eq_getElem (by omega))
 have hsp := World.cell?_spot hc
 obtain ⟨g, o, sp⟩ := a
 have hsp : sp = none := by simpa [Addr.add] using hsp
 subst hsp
 refine ⟨g, o, rfl, fun j hj => ?_⟩
 obtain ⟨a', e, hcj⟩ := h.cells j _ (List.getElem?_eq_getElem (by omega))
 cases e
 rw [add_lit] at hcj
 rw [hcj]
 simp [List.getD_eq_getElem?_getD, List.getElem?_eq_getElem (show j < zs.length by omega)]
section
variable {H : Type} {enc : TypeId × Value → H} {P : Program} {w : World} {base : Nat} {spare : Nat → Bool} {held : Bool}
theorem open_ints_ {n : Nat} {cs : List Value} {y : DataW H × List MemPlace} (h : DataW.trod enc Tryz.prog w base spare held n 58 cs = some y) (hz : ∀ k ∈ y.1.weights Tryz.prog 58, k ≤ reachBytes) :
  ∃ A m d zs, cs = [.slice A m d] ∧ Is w A m zs ∧ m * 8 ≤ 140737488351232 ∧ m ≤ d := by
 rcases open_ints Tryz.underlying58 Tryz.underlying3 (by kernel_rfl) h with ⟨rfl, _⟩ | ⟨x, l, c, zs, rfl, _, hl, hm, hzl, rfl, hcell, hwz⟩
 ·
  exact ⟨none, 0, 0, [], rfl, ⟨rfl, by simp⟩, by decide, by decide⟩
 ·
  have hlen : l ≤ zs.length := by rw [hzl]; split <;> omega
  have hw := (weights_slice Tryz.underlying58 hz).1
  rw [show Tryz.prog.bytesOf 3 = 8 by kernel_rfl] at hw
  refine ⟨some x, l, c, zs.take l, rfl, ⟨by simp; omega, fun j u hj => ⟨x, rfl, ?_⟩⟩, ?_, hl⟩
  ·
   have hjl := (List.getElem?_eq_some_iff.1 hj).1
   rw [List.length_take] at hjl
   have h2 : j < zs.length := by omega
   rw [hcell j h2]
   simp only [List.getElem?_take, if_pos (show j < l by omega)] at hj
   simp [List.getD, hj]
  ·
   simp [lits, reachBytes] at hw
   omega
end
end
section
open Go.RowKit Go.Lib


theorem foldS_len : ∀ (T s : List EvP), (T.foldl putS s).length ≤ s.length + T.length
 | [], s => by simp
 | e :: T, s => by
  have a := foldS_len T (putS s e)
  have b := elseE_len s e
  simp only [List.foldl_cons, List.length_cons]
  omega
theorem foldS_in : ∀ (T s : List EvP) (x : EvP), x ∈ T.foldl putS s → x ∈ s ∨ x ∈ T
 | [], s, x, h => .inl h
 | e :: T, s, x, h => by
  rcases foldS_in T (putS s e) x h with q | q
  ·
   rcases putS_in q with r | r
   ·
    exact .inr (by simp [r])
   ·
    exact .inl r
  ·
   exact .inr (by simp [q])
structure PutI (U es : List EvP) (m i : Nat) (T cs : List EvP) : Prop where
 fold : cs = T.foldl putS []
 sub : ∀ x ∈ T, x ∈ es
 has : ∀ x ∈ es.take (i - m), x ∈ T
 len : T.length ≤ i
theorem PutI.next {U es : List EvP} {m i : Nat} {T cs : List EvP} {e : EvP} (h : PutI U es m i T cs) (he : e ∈ es) (hi : m ≤ i → es[i - m]? = some e) : PutI U es m (i + 1) (T ++ [e]) (putS cs e) := by
 refine ⟨by rw [List.foldl_append, ← h.fold]; rfl, fun x hx => ?_, fun x hx => ?_, by have := h.len; simp; omega⟩
 ·
  rcases List.mem_append.1 hx with q | q
  ·
   exact h.sub x q
  ·
   simp at q; rw [q]; exact he
 ·
  by_cases q : m ≤ i
  ·
   rw [show i + 1 - m = (i - m) + 1 by omega, List.take_add_one, hi q] at hx
   rcases List.mem_append.1 hx with r | r
   ·
    exact List.mem_append_left _ (h.has x r)
   ·
    exact List.mem_append_right _ (by simpa using r)
  ·
   rw [show i + 1 - m = 0 by omega] at hx
   simp at hx
theorem PutI.skip {U es : List EvP} {m i : Nat} {T cs : List EvP} (h : PutI U es m i T cs) (he : es = []) : PutI U es m (i + 1) T cs :=
 ⟨h.fold, h.sub, fun x hx => by rw [he] at hx; simp at hx, by have := h.len; omega⟩
theorem PutI.ok {U es : List EvP} {m i : Nat} {T cs : List EvP} (h : PutI U es m i T cs) (hU : closedE U = true) (hes : ∀ x ∈ es, x ∈ U) : StOk cs := by
 rw [h.fold]
 exact stOf_ok hU (fun x hx => hes x (h.sub x hx)) (puts_store hU (fun x hx => hes x (h.sub x hx)))
theorem PutI.inE {U es : List EvP} {m i : Nat} {T cs : List EvP} (h : PutI U es m i T cs) : (∀ x ∈ cs, x ∈ es) ∧ cs.length ≤ i := by
 refine ⟨fun x hx => ?_, ?_⟩
 ·
  rw [h.fold] at hx
  rcases foldS_in T [] x hx with q | q
  ·
   cases q
  ·
   exact h.sub x q
 ·
  have := foldS_len T []
  rw [← h.fold] at this
  have := h.len
  simp at *
  omega
theorem PutI.put {U es : List EvP} {m i : Nat} {T cs : List EvP} {e : EvP} (h : PutI U es m i T cs) (hU : closedE U = true) (hes : ∀ x ∈ es, x ∈ U) (he : e ∈ es) : stPut cs e = (0, putS cs e) :=
 stPut_yes (h.ok hU hes) (cl_chk hU (hes e he)) (else_closed hU (fun x hx => hes x (h.inE.1 x hx)) (hes e he))
theorem PutI.end_ {U es : List EvP} {m : Nat} {T cs : List EvP} (h : PutI U es m (m + es.length) T cs) (hU : closedE U = true) (hes : ∀ x ∈ es, x ∈ U) : cs = es.foldl putS [] := by
 rw [h.fold]
 refine st_order hU (fun x hx => hes x (h.sub x hx)) (fun x => ⟨h.sub x, fun hx => h.has x ?_⟩)
 rw [show m + es.length - m = es.length by omega, List.take_length]
 exact hx
set_option maxHeartbeats 400000 in
theorem pick_none (w : World) (x n : Int) (hn : n < 1) : Calls Tryz.prog 86 #[.int .i64 x, .int .i64 n] w fun e w' => e = .returned (.int .i64 0) ∧ w' = w := by
 go_enter Tryz.func86, Tryz.ntmps86
 go_wp2
 go_ret
 exact ⟨rfl, rfl⟩

set_option maxRecDepth 100000 in
set_option maxHeartbeats 16000000 in
theorem l10puts_any (w : World) (U : List EvP) (A B : Option Addr) (c d m : Nat) (xs : List EvT) (es : List EvP) (os : List Int) (h : RdK evTy w A xs.length xs) (hx : EvsR w xs es) (ho : Is w B m os) (hn : xs.length + m ≤ 900) (hs : ∀ e ∈ es, EvSm e ∧ e.q.length ≤ 100000) (hU : closedE U = true) (hes : ∀ x ∈ es, x ∈ U) :
  Calls Tryz.prog 39 #[.slice A xs.length c, .slice B m d] w fun r w' => ∃ (A' : Option Addr) (c' : Nat) (zs : List EvT), r = .returned (.tuple #[.slice A' zs.length c', .bool true]) ∧ EsF w' w.heap.size w'.heap.size A' c' zs (es.foldl putS []) ∧ Chg [] w w' := by

 have HA := Lib.hid h
 have HX := Lib.hid hx
 have HO := Lib.hid ho
 have HN := Lib.hid hn
 have HS := Lib.hid hs
 have HU := Lib.hid hU
 have HES := Lib.hid hes
 have LO : Hid (w.heap.size ≤ w.heap.size) := Lib.hid (Nat.le_refl _)
 have LL := Lib.hid ho.len
 clear h hx ho hn hs hU hes
 go_enter Tryz.func39, Tryz.ntmps39
 go_wp2
 go_loopw [6, 7] (fun v6 v7 wr => ∃ (i : Nat) (A1 : Option Addr) (d1 : Nat) (zs : List EvT) (cs T : List EvP), i ≤ m + xs.length ∧ v7 = .int .i64 (i : Int) ∧ v6 = .slice A1 zs.length d1 ∧ Hid (PutI U es m i T cs) ∧ Hid (zs.length ≤ d1 ∧ d1 ≤ maxLen) ∧ Hid (RdK evTy wr A1 zs.length zs) ∧ Hid (EvsR wr zs cs) ∧ Hid (∀ a, A1 = some a → a.block < wr.heap.size) ∧ Hid ((zs = [] ∧ A1 = none ∧ d1 = 0) ∨ EsF wr w.heap.size wr.heap.size A1 d1 zs cs) ∧ Hid (Chg [] w wr)) (fun _ v7 _ => m + xs.length - (RowKit.intOf v7).toNat)
 case atStart => exact ⟨0, none, 0, [], [], [], Nat.zero_le _, rfl, rfl, Lib.hid ⟨rfl, by simp, by simp, Nat.le_refl _⟩, Lib.hid ⟨Nat.le_refl _, Nat.zero_le _⟩, Lib.hid (RdK.nil _ _), Lib.hid (EvsR.nil _), Lib.hid (by simp), Lib.hid (.inl ⟨rfl, rfl, rfl⟩), Lib.hid (Chg.refl _ _)⟩
 case round =>
  obtain ⟨i, A1, d1, zs, cs, T, hi, rfl, rfl, PI, CP, RZ, EZ, FZ, ES, PC⟩ := hrel
  have i0 : (0 : Int) ≤ (i : Int) := by omega
  have s1 : IntKind.i64.wrap ((m : Int) + (xs.length : Int)) = ((m + xs.length : Nat) : Int) := by rw [IntWalk.i64_in _ (by have := HN.out; omega)]; omega
  have s2 : IntKind.i64.wrap ((i : Int) - (m : Int)) = (i : Int) - (m : Int) := IntWalk.i64_in _ (by have := HN.out; omega)
  have s3 : IntKind.i64.wrap ((i : Int) + 1) = (i : Int) + 1 := IntWalk.i64_in _ (by have := HN.out; omega)
  by_cases hlt : i < m + xs.length
  ·
   have s4 : (i : Int) < ((m + xs.length : Nat) : Int) := by omega
   have s5 : (i : Int) < (m : Int) + (xs.length : Int) := by omega
   by_cases him : i < m
   ·
    have t1 : (i : Int) - (m : Int) < 0 := by omega
    have t2 : (i : Int) < (m : Int) := by omega
    have zo := (HO.out.chg PC.out (by simp)).line (by omega)
    obtain ⟨go, oo, eB, HBC⟩ := zo
    have zb := HBC i (by omega)
    subst eB
    obtain ⟨v, hv⟩ : ∃ v, os.getD i 0 = v := ⟨_, rfl⟩
    rw [hv] at zb
    clear hv HBC
    by_cases hz : xs.length = 0
    ·
     have NX := Lib.hid (PI.out.skip (List.length_eq_zero_iff.1 (by rw [← HX.out.1]; exact hz)))
     have z0' : ((xs.length : Nat) : Int) < 1 := by omega
     have z1' : (xs.length : Int) ≤ 0 := by omega
     have z2' : (0 : Int) ≥ (xs.length : Int) := by omega
     have z4' : ∀ i : Decidable (xs = []), @decide (xs = []) i = true := fun i => decide_eq_true (List.length_eq_zero_iff.1 hz)
     clear hz
     go_wp2_with fail
     refine (pick_none wr v (xs.length : Int) z0').mono ?_
     rintro r w5 ⟨rfl, rfl⟩
     clear zb PI
     go_wp2
     go_round
     case rel => exact ⟨i + 1, A1, d1, zs, cs, T, by omega, by go_num, rfl, NX, CP, RZ, EZ, FZ, ES, PC⟩
     case measure => simp [RowKit.intOf]; omega
    ·
     have p1 : (1 : Int) ≤ ((xs.length : Nat) : Int) := by omega
     go_wp2_with fail
     clear zb
     refine (pick_any wr v (xs.length : Int) p1 (by have := HN.out; omega)).mono ?_
     rintro r w5 ⟨rfl, hw5⟩
     subst hw5
     obtain ⟨kk, hkk⟩ : ∃ kk : Nat, v % (xs.length : Int) = (kk : Int) := ⟨(v % (xs.length : Int)).toNat, (Int.toNat_of_nonneg (Int.emod_nonneg _ (by omega))).symm⟩
     have KL : kk < xs.length := by have := Int.emod_lt_of_pos v (show (0 : Int) < (xs.length : Int) by omega); omega
     rw [hkk]
     clear hkk
     have k0 : (0 : Int) ≤ (kk : Int) := by omega
     have k1 : (kk : Int) < (xs.length : Int) := by omega
     have k2 : ¬ (kk : Int) ≥ (xs.length : Int) := by omega
     have k3 : ¬ (xs.length : Int) ≤ (kk : Int) := by omega
     obtain ⟨x, e, ex, ee, rx⟩ := HX.out.at_ KL
     obtain ⟨g3, o3, eA, _⟩ := HA.out.line (by omega)
     subst eA
     obtain ⟨z0, z1, z2, z3, z4, z5, z6⟩ := evCells (HA.out.chg PC.out (by simp)) ex
     have EM := Lib.hid (List.mem_of_getElem? ee)
     have NX := Lib.hid (PI.out.next EM.out (fun q => absurd q (by omega)))
     have PV := Lib.hid (PI.out.put HU.out HES.out EM.out)
     have CALL := Lib.hid (stput_any wr A1 d1 zs cs x e RZ.out CP.out (.inr FZ.out) EZ.out (by have a := EZ.out.1; have b := PI.out.inE.2; have := HN.out; omega) (fun f hf => HS.out f (PI.out.inE.1 f hf)) (rx.chg PC.out) (HS.out e EM.out))
     clear ex ee rx
     go_wp2_with fail
     clear z0 z1 z2 z3 z4 z5 z6
     refine CALL.out.mono ?_
     rintro r w7 ⟨A7, c7, us, rfl, he, hc⟩
     rw [PV.out] at he ⊢
     have P7 := Lib.hid (PC.out.trans hc)
     have R7 := Lib.hid he.row.reads
     have E7 := Lib.hid he.all.ev
     have CP7 := Lib.hid he.row.cap
     have F7 : Hid (∀ a, A7 = some a → a.block < w7.heap.size) := Lib.hid (fun a ha => (he.rowAt a ha).2)
     have L7 := Lib.hid (he.low (Nat.le_trans LO.out PC.out.size))
     clear he hc CALL PI RZ EZ CP FZ ES
     go_wp2
     go_round
     case rel => exact ⟨i + 1, A7, c7, us, putS cs e, T ++ [e], by omega, by go_num, rfl, NX, CP7, R7, E7, F7, Lib.hid (.inr L7.out), P7⟩
     case measure => simp [RowKit.intOf]; omega
   ·
    have t1 : ¬ (i : Int) - (m : Int) < 0 := by omega
    have t2 : ¬ (i : Int) < (m : Int) := by omega
    obtain ⟨kk, hkk⟩ : ∃ kk : Nat, i = m + kk := ⟨i - m, by omega⟩
    have ek : (i : Int) - (m : Int) = (kk : Int) := by omega
    rw [ek] at s2 t1
    have KL : kk < xs.length := by omega
    have k0 : (0 : Int) ≤ (kk : Int) := by omega
    have k1 : (kk : Int) < (xs.length : Int) := by omega
    have k2 : ¬ (kk : Int) ≥ (xs.length : Int) := by omega
    have k3 : ¬ (xs.length : Int) ≤ (kk : Int) := by omega
    obtain ⟨x, e, ex, ee, rx⟩ := HX.out.at_ KL
    obtain ⟨g3, o3, eA, _⟩ := HA.out.line (by omega)
    subst eA
    obtain ⟨z0, z1, z2, z3, z4, z5, z6⟩ := evCells (HA.out.chg PC.out (by simp)) ex
    have HKK := Lib.hid hkk
    have EEH := Lib.hid ee
    clear hkk
    have EM := Lib.hid (List.mem_of_getElem? ee)
    have NX := Lib.hid (PI.out.next EM.out (fun q => by rw [show i - m = kk by have := HKK.out; omega]; exact EEH.out))
    have PV := Lib.hid (PI.out.put HU.out HES.out EM.out)
    have CALL := Lib.hid (stput_any wr A1 d1 zs cs x e RZ.out CP.out (.inr FZ.out) EZ.out (by have a := EZ.out.1; have b := PI.out.inE.2; have := HN.out; omega) (fun f hf => HS.out f (PI.out.inE.1 f hf)) (rx.chg PC.out) (HS.out e EM.out))
    clear ex ee rx
    go_wp2_with fail
    clear z0 z1 z2 z3 z4 z5 z6
    refine CALL.out.mono ?_
    rintro r w7 ⟨A7, c7, us, rfl, he, hc⟩
    rw [PV.out] at he ⊢
    have P7 := Lib.hid (PC.out.trans hc)
    have R7 := Lib.hid he.row.reads
    have E7 := Lib.hid he.all.ev
    have CP7 := Lib.hid he.row.cap
    have F7 : Hid (∀ a, A7 = some a → a.block < w7.heap.size) := Lib.hid (fun a ha => (he.rowAt a ha).2)
    have L7 := Lib.hid (he.low (Nat.le_trans LO.out PC.out.size))
    clear he hc CALL PI RZ EZ CP FZ ES
    go_wp2
    go_round
    case rel => exact ⟨i + 1, A7, c7, us, putS cs e, T ++ [e], by omega, by go_num, rfl, NX, CP7, R7, E7, F7, Lib.hid (.inr L7.out), P7⟩
    case measure => simp [RowKit.intOf]; omega
  ·
   have s4 : ¬ (i : Int) < ((m + xs.length : Nat) : Int) := by omega
   have s5 : ¬ (i : Int) < (m : Int) + (xs.length : Int) := by omega
   have EQ : Hid (cs = es.foldl putS []) := Lib.hid ((show i = m + es.length by have := HX.out.1; omega) ▸ PI.out |>.end_ HU.out HES.out)
   have FIN : Hid (EsF wr w.heap.size wr.heap.size A1 d1 zs cs) := Lib.hid (by
    rcases ES.out with ⟨q1, q2, q3⟩ | q
    ·
     subst q1 q2 q3
     have hcs : cs = [] := List.length_eq_zero_iff.1 EZ.out.1.symm
     subst hcs
     exact EsF.nil _ _ _
    ·
     exact q)
   go_wp2
   go_ret2
   rw [← EQ.out]
   exact ⟨A1, d1, zs, rfl, FIN.out, PC.out⟩
end
end Go.Proofs.YtomgjogkkoigbaaGreatDoor
