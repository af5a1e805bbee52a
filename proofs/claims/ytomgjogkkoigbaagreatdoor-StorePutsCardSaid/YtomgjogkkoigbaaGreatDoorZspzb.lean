/- The program's Of. store.Shelf, Near, Missing, Known. Sixteen letters: a number's digits to the base 16: no memory here. strconv.FormatUint at the base 16, strings.Repeat of '0', print.Text. The fingerprint: through, More, Sum; the document's. print.Mix: the pieces of numbers, eight bytes each. Slices of numbers as arguments. The law's puts (layer 10). What a store misses of another one: purely. -/
import Derived.Test.YtomgjogkkoigbaaGreatDoorZspza
import Derived.Test.YtomgjogkkoigbaaGreatDoorZspn
import Derived.Test.YtomgjogkkoigbaaGreatDoorZspk
import Derived.Test.YtomgjogkkoigbaaGreatDoorZspb
import Derived.Deep.Cut
import Derived.Test.YtomgjogkkoigbaaGreatDoorZspv
import Derived.Test.YtomgjogkkoigbaaGreatDoorZspj
import Derived.RangeFuncCalls
import Derived.Test.YtomgjogkkoigbaaGreatDoorZspa
import Derived.Test.YtomgjogkkoigbaaGreatDoorZspq
set_option linter.unusedSimpArgs false
set_option linter.unusedVariables false
namespace Go.Proofs.YtomgjogkkoigbaaGreatDoor
section
open Go.RowKit Go.Lib


theorem fineDQ (n s : Int) : FineD n s ↔ FineQ n s := Iff.rfl
set_option maxRecDepth 100000 in
set_option maxHeartbeats 4000000 in
theorem of1_any (w : World) (n s : Int) : Calls Tryz.prog 88 #[.agg #[.int .i64 n, .int .i64 s]] w fun e w' => e = .returned (.bool (decide (¬ FineQ n s))) ∧ Chg [] w w' := by
 obtain ⟨w1, hw1, c1, b1⟩ := news1 w (.cells #[.int .i64 n, .int .i64 s] 24)
 have W1 := Lib.hid hw1
 have C := Lib.hid c1
 have z0 := cell_of b1 0
 have z1 := cell_of b1 1
 simp only [List.getElem?_toArray, List.getElem?_cons_succ, List.getElem?_cons_zero] at z0 z1
 clear hw1 c1 b1
 generalize hv : decide (¬ FineQ n s) = v
 have HV := Lib.hid hv
 clear hv
 go_enter Tryz.func88, Tryz.ntmps88
 go_upto_region 1 with fail
 rw [← W1.out]
 generalize w.heap.size = g0 at *
 go_wp2_with fail
 refine (dcheck_any w1 n s).mono ?_
 rintro e w2 ⟨rfl, hc⟩
 replace C := Lib.hid (C.out.trans hc)
 clear hc z0 z1
 by_cases hf : FineQ n s
 ·
  rw [chkD_fine hf]
  obtain rfl : v = false := by rw [← HV.out]; exact decide_eq_false (fun q => q hf)
  clear hf HV; go_wp2; go_ret
  exact ⟨rfl, C.out⟩
 ·
  rw [chkD_odd hf]
  obtain rfl : v = true := by rw [← HV.out]; exact decide_eq_true hf
  clear hf HV; go_wp2; go_ret
  exact ⟨rfl, C.out⟩
set_option maxRecDepth 100000 in
set_option maxHeartbeats 4000000 in
theorem idxdot_any (w : World) (A : Option Addr) (c : Nat) (l : List (Int × Int)) (h : RdK dotTy w A l.length l) (hn : l.length ≤ 140737488351232) :
  Calls Tryz.prog 156 #[.slice A l.length c, .func (.func 88) #[] #[]] w fun e w' => (∃ v : Int, e = .returned (.int .i64 v) ∧ fineL l = decide (v < 0)) ∧ Chg [] w w' := by
 have H := Lib.hid h
 have HN := Lib.hid hn
 clear h hn
 go_enter Tryz.func156, Tryz.ntmps156
 go_wp2
 go_loopw [5, 8] (fun v5 v8 wr => ∃ (k : Nat), k ≤ l.length ∧ v8 = .int .i64 k ∧ Hid (fineL (l.take k) = true) ∧ Hid (Chg [] w wr)) (fun _ v8 _ => l.length - (RowKit.intOf v8).toNat)
 case atStart => exact ⟨0, Nat.zero_le _, rfl, Lib.hid rfl, Chg.refl _ _⟩
 case round =>
  obtain ⟨k, hk, rfl, FN, RC⟩ := hrel
  have i0 : (0 : Int) ≤ (k : Int) := by omega
  by_cases hlt : k < l.length
  ·
   have i1 : (k : Int) < (l.length : Int) := by omega
   have i3 : IntKind.i64.wrap ((k : Int) + 1) = (k : Int) + 1 := IntWalk.i64_in _ (by have := HN.out; omega)
   obtain ⟨x, hx⟩ : ∃ x, l[k]? = some x := ⟨_, List.getElem?_eq_getElem hlt⟩
   obtain ⟨g, o, eA, _⟩ := H.out.line (by omega)
   subst eA
   obtain ⟨q0, q1⟩ := dotCells (H.out.chg RC.out (by simp)) hx
   have FT := Lib.hid (fine_take hx)
   have NO : Hid (¬ FineQ x.1 x.2 → fineL l = false) := Lib.hid (fun q => fine_no hx q)
   clear hx; go_wp2_with fail
   refine (of1_any wr x.1 x.2).mono ?_
   rintro e w2 ⟨rfl, hc⟩
   have C2 := Lib.hid (RC.out.trans hc)
   clear hc q0 q1
   by_cases hf : FineQ x.1 x.2
   ·
    rw [decide_eq_false (fun q => q hf)]
    have NF : Hid (Hid (fineL (l.take (k + 1)) = true)) := Lib.hid (Lib.hid (by rw [FT.out, FN.out, decide_eq_true hf]; rfl))
    clear hf NO FT FN; go_wp2; go_round
    case rel => exact ⟨k + 1, by omega, by go_num, NF.out, C2.out⟩
    case measure => simp [RowKit.intOf]; omega
   ·
    rw [decide_eq_true hf]
    have NF := Lib.hid (NO.out hf)
    clear hf NO FT FN; go_wp2; go_ret
    exact ⟨by rw [NF.out]; simp, C2.out⟩
  ·
   obtain rfl : k = l.length := by omega
   rw [List.take_length] at FN
   have i1 : ¬ (l.length : Int) < (l.length : Int) := by omega
   go_wp2; go_ret
   exact ⟨by rw [FN.out]; simp, RC.out⟩
set_option maxRecDepth 100000 in
set_option maxHeartbeats 4000000 in
theorem containsdot_any (w : World) (A : Option Addr) (c : Nat) (l : List (Int × Int)) (h : RdK dotTy w A l.length l) (hn : l.length ≤ 140737488351232) :
  Calls Tryz.prog 87 #[.slice A l.length c, .func (.func 88) #[] #[]] w fun e w' => e = .returned (.bool (!fineL l)) ∧ Chg [] w w' := by
 have go : ∀ v, (!fineL l) = v → Calls Tryz.prog 87 #[.slice A l.length c, .func (.func 88) #[] #[]] w (fun e w' => e = .returned (.bool v) ∧ Chg [] w w') → Calls Tryz.prog 87 #[.slice A l.length c, .func (.func 88) #[] #[]] w fun e w' => e = .returned (.bool (!fineL l)) ∧ Chg [] w w' := fun v hv h => hv ▸ h
 have H := Lib.hid h
 have HN := Lib.hid hn
 clear h hn
 rcases hf : fineL l with _ | _
 ·
  rw [hf] at go
  refine go true rfl ?_
  clear go
  go_enter Tryz.func87, Tryz.ntmps87
  go_wp2_with fail
  refine (idxdot_any w A c l H.out HN.out).mono ?_
  rintro e w2 ⟨⟨v, rfl, hv⟩, hc⟩
  have C := Lib.hid hc
  have hv2 : decide ((0 : Int) ≤ v) = true := decide_eq_true (by rw [hf] at hv; have := of_decide_eq_false hv.symm; omega)
  clear hv hc hf; go_wp2; go_ret
  exact ⟨rfl, C.out⟩
 ·
  rw [hf] at go
  refine go false rfl ?_
  clear go
  go_enter Tryz.func87, Tryz.ntmps87
  go_wp2_with fail
  refine (idxdot_any w A c l H.out HN.out).mono ?_
  rintro e w2 ⟨⟨v, rfl, hv⟩, hc⟩
  have C := Lib.hid hc
  have hv2 : decide ((0 : Int) ≤ v) = false := decide_eq_false (by rw [hf] at hv; have := of_decide_eq_true hv.symm; omega)
  clear hv hc hf; go_wp2; go_ret
  exact ⟨rfl, C.out⟩
set_option maxRecDepth 100000 in
set_option maxHeartbeats 4000000 in
theorem of2_any (w : World) (A : Option Addr) (c : Nat) (xs : List Sp) (n s : Int) (h : OwnK spanTy w A c xs) (hn : xs.length ≤ 100000) (hb : ∀ x ∈ xs, B3 x) :
  Calls Tryz.prog 93 #[.slice A xs.length c, .agg #[.int .i64 n, .int .i64 s]] w fun e w' => ∃ A' c', e = .returned (.slice A' (pushP xs (n, s, s)).length c') ∧ OwnK spanTy w' A' c' (pushP xs (n, s, s)) ∧ (A' = A ∨ ∀ a, A' = some a → w.heap.size ≤ a.block) ∧ ∀ S : List Nat, (∀ a, A = some a → a.block ∈ S) → Chg S w w' := by
 obtain ⟨w1, hw1, c1, b1⟩ := news1 w (.cells #[.int .i64 n, .int .i64 s] 24)
 have W1 := Lib.hid hw1
 have C := Lib.hid c1
 have H := Lib.hid (h.chg c1 (by simp))
 have HN := Lib.hid hn
 have HB := Lib.hid hb
 have z0 := cell_of b1 0
 have z1 := cell_of b1 1
 simp only [List.getElem?_toArray, List.getElem?_cons_succ, List.getElem?_cons_zero] at z0 z1
 clear hw1 c1 b1 h hn hb
 generalize hSZ : w.heap.size = sz
 have SZ := Lib.hid hSZ
 clear hSZ
 go_enter Tryz.func93, Tryz.ntmps93
 go_upto_region 1 with fail
 rw [← W1.out]
 rw [SZ.out] at z0 z1
 rw [SZ.out]
 go_wp2_with fail
 refine (alone_any w1 n s).mono ?_
 rintro e w2 ⟨rfl, hc⟩
 replace H := Lib.hid (H.out.chg hc (by simp))
 replace C := Lib.hid (C.out.trans hc)
 clear hc z0 z1; go_wp2_with fail
 refine (push_any w2 c (n, s, s) A xs H.out HN.out HB.out).mono ?_
 rintro e w3 ⟨A3, c3, rfl, ho, ha, hs⟩
 have HO := Lib.hid ho
 have HA : Hid (A3 = A ∨ ∀ a, A3 = some a → sz ≤ a.block) := Lib.hid (ha.imp id (fun q a e => by have := q a e; have := C.out.size; rw [SZ.out] at this; omega))
 have HS : Hid (∀ S : List Nat, (∀ a, A = some a → a.block ∈ S) → Chg S w w3) := Lib.hid (fun S q => (C.out.mono (S' := S) (by simp)).trans (hs S q))
 clear ho ha hs; go_wp2; go_ret
 exact ⟨A3, c3, rfl, HO.out, HA.out, HS.out⟩
set_option maxRecDepth 100000 in
set_option maxHeartbeats 4000000 in
theorem foldof_any (w : World) (A : Option Addr) (c : Nat) (l : List (Int × Int)) (h : RdK dotTy w A l.length l) (hn : l.length ≤ 100000) (hf : fineL l = true) :
  Calls Tryz.prog 91 #[.slice A l.length c, .slice none 0 0, .func (.func 93) #[] #[]] w fun e w' => ∃ A' c', e = .returned (.slice A' ((l.map aloneP).foldl pushP []).length c') ∧ OwnK spanTy w' A' c' ((l.map aloneP).foldl pushP []) ∧ (∀ a, A' = some a → w.heap.size ≤ a.block) ∧ Chg [] w w' := by
 have H := Lib.hid h
 have HN := Lib.hid hn
 have HF := Lib.hid hf
 clear h hn hf
 go_enter Tryz.func91, Tryz.ntmps91
 go_wp2
 go_loopw [1, 11] (fun v1 v11 wr => ∃ (k : Nat) (A' : Option Addr) (d' : Nat), k ≤ l.length ∧ v11 = .int .i64 k ∧ v1 = .slice A' (((l.take k).map aloneP).foldl pushP []).length d' ∧ Hid (OwnK spanTy wr A' d' (((l.take k).map aloneP).foldl pushP [])) ∧ Hid (∀ a, A' = some a → w.heap.size ≤ a.block) ∧ Hid (Chg [] w wr)) (fun _ v11 _ => l.length - (RowKit.intOf v11).toNat)
 case atStart => exact ⟨0, none, 0, Nat.zero_le _, rfl, rfl, OwnK.none_ _, Lib.hid (by simp), Chg.refl _ _⟩
 case round =>
  obtain ⟨k, A1, d1, hk, rfl, rfl, RO, RN, HI⟩ := hrel
  generalize wr = w4 at *
  clear wr
  by_cases hlt : k < l.length
  ·
   obtain ⟨x, hx⟩ : ∃ x, l[k]? = some x := ⟨_, List.getElem?_eq_getElem hlt⟩
   obtain ⟨g, o, eA, _⟩ := H.out.line (by omega)
   subst eA
   obtain ⟨q0, q1⟩ := dotCells (H.out.chg HI.out (by simp)) hx
   have i0 : (0 : Int) ≤ (k : Int) := by omega
   have i1 : (k : Int) < (l.length : Int) := by omega
   have i3 : IntKind.i64.wrap ((k : Int) + 1) = (k : Int) + 1 := IntWalk.i64_in _ (by have := HN.out; omega)
   have FS : Hid (((l.take (k + 1)).map aloneP).foldl pushP [] = pushP (((l.take k).map aloneP).foldl pushP []) (x.1, x.2, x.2)) := Lib.hid (by rw [alone_take hx, List.foldl_append]; rfl)
   have PR := Lib.hid (fold_props ((l.take k).map aloneP) [] (by simp) (fun y hy => by
    obtain ⟨d, hd, rfl⟩ := List.mem_map.1 hy
    exact alone_B3 HF.out _ (List.mem_map.2 ⟨d, List.mem_of_mem_take hd, rfl⟩)))
   have LK : Hid (((l.take k).map aloneP).length ≤ 100000) := Lib.hid (by have := HN.out; rw [List.length_map, List.length_take]; omega)
   generalize ((l.take k).map aloneP).foldl pushP [] = out at *
   obtain ⟨w5, hw5, c5, b5⟩ := news1 w4 (.cells #[.int .i64 x.1, .int .i64 x.2] 24)
   have W5 := Lib.hid hw5
   have B5 := Lib.hid b5
   replace RO := Lib.hid (RO.out.chg c5 (by simp))
   replace HI := Lib.hid (HI.out.trans c5)
   clear hw5 c5 hx b5
   go_upto_region 4 with fail
   rw [← W5.out]
   generalize w4.heap.size = g4 at *
   have y0 := cell_of B5.out 0
   have y1 := cell_of B5.out 1
   simp only [List.getElem?_toArray, List.getElem?_cons_succ, List.getElem?_cons_zero] at y0 y1
   go_wp2_with fail
   refine (of2_any w5 A1 d1 out x.1 x.2 RO.out (by have := PR.out.2; have := LK.out; simp at *; omega) PR.out.1).mono ?_
   rintro e w6 ⟨A6, c6, rfl, ho, ha, hs⟩
   have O6 := Lib.hid ho
   have N6 : Hid (∀ a, A6 = some a → w.heap.size ≤ a.block) := Lib.hid (fun a e => by
    rcases ha with rfl | q
    ·
     exact RN.out a e
    ·
     exact Nat.le_trans HI.out.size (q a e))
   have C6 : Hid (Chg [] w w6) := Lib.hid (HI.out.trans' (hs (blkOf A1) (fun a e => mem_blkOf e)) (fun i hi => by
    obtain ⟨u, hu, rfl⟩ := of_blkOf hi
    exact .inr (RN.out u hu)))
   clear ho ha hs q0 q1 y0 y1; go_wp2; go_round
   case rel => exact ⟨k + 1, A6, c6, by omega, by go_num, by rw [FS.out], by rw [FS.out]; exact O6, N6, C6⟩
   case measure => simp [RowKit.intOf]; omega
  ·
   obtain rfl : k = l.length := by omega
   rw [List.take_length] at RO ⊢
   have i1 : ¬ (l.length : Int) < (l.length : Int) := by omega
   go_wp2; go_ret
   exact ⟨A1, d1, rfl, RO.out, RN.out, HI.out⟩
set_option maxRecDepth 100000 in
set_option maxHeartbeats 4000000 in
theorem paof_any (w : World) (A : Option Addr) (c : Nat) (l : List (Int × Int)) (h : RdK dotTy w A l.length l) (hn : l.length ≤ 100000) :
  Calls Tryz.prog 41 #[.slice A l.length c] w fun e w' => ∃ A' c', e = .returned (.tuple #[.slice A' (ofE l).2.length c', .int .i64 (ofE l).1]) ∧ OwnK spanTy w' A' c' (ofE l).2 ∧ (∀ a, A' = some a → w.heap.size ≤ a.block) ∧ Chg [] w w' := by
 have H := Lib.hid h
 have HN := Lib.hid hn
 clear h hn
 rcases hf : fineL l with _ | _
 ·
  have e1 : ofE l = (2, []) := by unfold ofE; rw [hf]; rfl
  rw [e1]
  go_enter Tryz.func41, Tryz.ntmps41
  go_wp2_with fail
  refine (containsdot_any w A c l H.out (by have := HN.out; omega)).mono ?_
  rintro e w2 ⟨rfl, hc⟩
  rw [hf]
  have C := Lib.hid hc
  clear hc; go_wp2; go_ret2
  exact ⟨none, 0, rfl, OwnK.none_ _, by simp, C.out⟩
 ·
  have e1 : ofE l = boundP (tidyS (l.map aloneP)) := by unfold ofE; rw [if_pos hf]
  have ss := sortD_strict l
  have e2 : ((sortD l).map aloneP).foldl pushP [] = tidyS (l.map aloneP) := of_sorted ss.2 (ss.1.imp (fun {x y} q => by unfold LtP LtD at q; exact q))
  have FS : Hid (fineL (sortD l) = true) := Lib.hid (fineL_iff.2 (fun d hd => fineL_iff.1 hf d ((ss.2 d).1 hd)))
  have SL : Hid ((sortD l).length ≤ 100000) := Lib.hid (by
   have a := (insAll_props l).2.2
   rw [insAll_sortD] at a
   have := HN.out
   omega)
  rw [e1, ← e2]
  clear e1 e2 ss
  generalize hRR : boundP (((sortD l).map aloneP).foldl pushP []) = RR
  have HRR := Lib.hid hRR
  clear hRR
  go_enter Tryz.func41, Tryz.ntmps41
  go_wp2_with fail
  refine (containsdot_any w A c l H.out (by have := HN.out; omega)).mono ?_
  rintro e w2 ⟨rfl, hc⟩
  rw [hf]
  have C := Lib.hid hc
  clear hc hf; go_wp2_with fail
  refine (dsort_any w2 A l.length c l (H.out.chg C.out (by simp)) (by have := HN.out; omega)).mono ?_
  rintro e w3 ⟨A3, c3, rfl, ho, ha, hc⟩
  have O3 := Lib.hid ho
  replace C := Lib.hid (C.out.trans hc)
  clear ho ha hc
  generalize sortD l = m at *
  go_wp2_with fail
  refine (foldof_any w3 A3 c3 m O3.out.reads SL.out FS.out).mono ?_
  rintro e w4 ⟨A4, c4, rfl, ho, ha, hc⟩
  have O4 := Lib.hid ho
  have N4 : Hid (∀ a, A4 = some a → w.heap.size ≤ a.block) := Lib.hid (fun a e => Nat.le_trans C.out.size (ha a e))
  replace C := Lib.hid (C.out.trans hc)
  clear ho ha hc
  generalize (m.map aloneP).foldl pushP [] = out at *
  by_cases hb : out.length ≤ 4000
  ·
   obtain rfl : RR = (0, out) := by rw [← HRR.out]; exact bound_le hb
   go_wp2_with fail
   refine (bounded_few w4 A4 out.length c4 hb).mono ?_
   rintro e w5 ⟨rfl, hc⟩
   have O5 := Lib.hid (O4.out.chg hc (by simp))
   replace C := Lib.hid (C.out.trans hc)
   clear hc; go_wp2; go_ret2
   exact ⟨A4, c4, rfl, O5.out, N4.out, C.out⟩
  ·
   obtain rfl : RR = (8, []) := by rw [← HRR.out]; unfold boundP; rw [if_pos (by omega)]
   go_wp2_with fail
   refine (bounded_many w4 A4 out.length c4 (by omega)).mono ?_
   rintro e w5 ⟨rfl, hc⟩
   replace C := Lib.hid (C.out.trans hc)
   clear hc; go_wp2; go_ret2
   exact ⟨none, 0, rfl, OwnK.none_ _, by simp, C.out⟩
end
section
open Go.RowKit Go.Lib


set_option maxRecDepth 100000 in
set_option maxHeartbeats 4000000 in
theorem stshelf_any (w : World) (A : Option Addr) (c : Nat) (xs : List EvT) (es : List EvP) (p : List UInt8) (h : RdK evTy w A xs.length xs) (hx : EvsR w xs es) (hn : xs.length ≤ 100000)  (hs : ∀ e ∈ es, EvSm e ∧ e.q.length ≤ 100000) :
  Calls Tryz.prog 21 #[.slice A xs.length c, .string (strOf p)] w fun r w' => ∃ (A' : Option Addr) (c' : Nat) (zs : List EvT), r = .returned (.slice A' zs.length c') ∧ EsF w' w.heap.size w'.heap.size A' c' zs (es.filter (fun e => decide (e.p = p))) ∧ Chg [] w w' := by
 obtain ⟨w1, hw1, c1, b1⟩ := news1 w (.cells #[.string (strOf p)] 9)
 have W1 := Lib.hid hw1
 have C1 := Lib.hid c1
 have TH := Lib.hid (stthose_any w1 A c xs es 61 #[.pointer (some ⟨w.heap.size, 0, none⟩)] (fun e => decide (e.p = p)) (h.chg c1 (by simp)) (hx.chg c1) hn (fun e he => ⟨(hs e he).1.2.1, (hs e he).2⟩) (enters_of Tryz.func61 (by kernel_rfl) rfl) (fun w' hc i x e ex ee => stshelf1_any w' w.heap.size p x e (hc.at_ b1 (by simp)) (hx.2 i x e ex ee).p))
 clear hw1 c1 b1 h hx hn hs
 go_enter Tryz.func21, Tryz.ntmps21
 go_upto_region 1 with fail
 rw [← W1.out]
 obtain ⟨g1, hg1⟩ : ∃ g, w.heap.size = g := ⟨_, rfl⟩
 rw [hg1] at TH ⊢
 clear W1; go_wp2_with fail
 refine TH.out.mono ?_
 rintro r w2 ⟨A2, c2, zs, rfl, hl, he, hc⟩
 have P := Lib.hid (And.intro (he.low C1.out.size) (C1.out.trans hc))
 clear hl he hc TH; go_wp2; go_ret
 exact ⟨A2, c2, zs, rfl, P.out.1, P.out.2⟩
set_option maxRecDepth 100000 in
set_option maxHeartbeats 4000000 in
theorem stnear_any (w : World) (A : Option Addr) (c : Nat) (xs : List EvT) (es : List EvP) (p : List UInt8) (h : RdK evTy w A xs.length xs) (hx : EvsR w xs es) (hn : xs.length ≤ 100000) (hp : p.length ≤ 10000000) (hs : ∀ e ∈ es, EvSm e ∧ e.q.length ≤ 100000) :
  Calls Tryz.prog 22 #[.slice A xs.length c, .string (strOf p)] w fun r w' => ∃ (A' : Option Addr) (c' : Nat) (zs : List EvT), r = .returned (.slice A' zs.length c') ∧ EsF w' w.heap.size w'.heap.size A' c' zs (es.filter (fun e => nearL e.p p)) ∧ Chg [] w w' := by
 obtain ⟨w1, hw1, c1, b1⟩ := news1 w (.cells #[.string (strOf p)] 9)
 have W1 := Lib.hid hw1
 have C1 := Lib.hid c1
 have TH := Lib.hid (stthose_any w1 A c xs es 62 #[.pointer (some ⟨w.heap.size, 0, none⟩)] (fun e => nearL e.p p) (h.chg c1 (by simp)) (hx.chg c1) hn (fun e he => ⟨(hs e he).1.2.1, (hs e he).2⟩) (enters_of Tryz.func62 (by kernel_rfl) rfl) (fun w' hc i x e ex ee => stnear1_any w' w.heap.size p x e (hc.at_ b1 (by simp)) (hx.2 i x e ex ee).p ⟨by have := (hs e (List.mem_of_getElem? ee)).1.1; omega, by omega⟩))
 clear hw1 c1 b1 h hx hn hs
 go_enter Tryz.func22, Tryz.ntmps22
 go_upto_region 1 with fail
 rw [← W1.out]
 obtain ⟨g1, hg1⟩ : ∃ g, w.heap.size = g := ⟨_, rfl⟩
 rw [hg1] at TH ⊢
 clear W1; go_wp2_with fail
 refine TH.out.mono ?_
 rintro r w2 ⟨A2, c2, zs, rfl, hl, he, hc⟩
 have P := Lib.hid (And.intro (he.low C1.out.size) (C1.out.trans hc))
 clear hl he hc TH; go_wp2; go_ret
 exact ⟨A2, c2, zs, rfl, P.out.1, P.out.2⟩
theorem RowTy.run_mk0 {α : Type} (R : RowTy α) (n : Nat) (h : n ≤ 1000000) (w : World) : (Instr.makeSlice R.TS (.int .i64 0) (.int .i64 (n : Int))).run Tryz.prog w = .ok (.slice (some ⟨w.heap.size, 0, none⟩) 0 n) (w.alloc (.cells (R.flat (List.replicate n R.z)).toArray R.T)) := by
 have hinf := R.info
 obtain ⟨i0, hi, hm⟩ := Option.map_eq_some_iff.1 hinf
 have hz : i0.zero = some R.zv := congrArg Prod.fst hm
 have hs : i0.size = R.k := congrArg (fun p => p.2.1) hm
 have hb : i0.bytes = R.bytes := congrArg (fun p => p.2.2) hm
 have hr := run_make (P := Tryz.prog) w R.TS R.T i0 R.zv R.under hi hz .i64 .i64 0 n (by omega) (by omega) (by rw [hb]; have := R.bpos; have : (R.bytes : Int) * (n : Int) ≤ 200 * (n : Int) := Int.mul_le_mul_of_nonneg_right (by omega) (by omega); omega) (by omega)
 rw [hr, hs, Int.toNat_natCast]
 have hk : R.zv.cells.size = R.k := by rw [← Array.length_toList, R.zc, R.klen]
 have e : madeCells R.zv.cells (n * R.k) = (R.flat (List.replicate n R.z)).toArray := by
  rw [← R.zeros]
  unfold madeCells Builtin.zeroCells
  simp [hk]
 rw [e]
 rfl
def dotsE (es : List EvP) : List (Int × Int) := es.map (fun e => (e.n, e.s))
def knownE (es : List EvP) : Int × List Sp := if StOk es then ((ofE (dotsE es)).1, (ofE (dotsE es)).2) else (2, [])
set_option maxRecDepth 100000 in
set_option maxHeartbeats 8000000 in
theorem stknownf_any (w : World) (A : Option Addr) (c : Nat) (xs : List EvT) (es : List EvP) (h : RdK evTy w A xs.length xs) (hc : xs.length ≤ c) (ho : xs = [] ∨ ∀ a, A = some a → a.block < w.heap.size) (hx : EvsR w xs es) (hn : xs.length ≤ 100000) (hs : ∀ e ∈ es, EvSm e) :
  Calls Tryz.prog 30 #[.slice A xs.length c] w fun r w' => ∃ (A' : Option Addr) (c' : Nat), r = .returned (.tuple #[.slice A' (knownE es).2.length c', .int .i64 (knownE es).1]) ∧ OwnK spanTy w' A' c' (knownE es).2 ∧ Chg [] w w' := by
 obtain ⟨R, hR⟩ : ∃ R, knownE es = R := ⟨_, rfl⟩
 rw [hR]
 have HR := Lib.hid hR
 have CK := Lib.hid (stcheck_any w A c xs es h hc ho hx hn hs)
 have HA := Lib.hid h
 have HX := Lib.hid hx
 have HN := Lib.hid hn
 clear h hc ho hx hn hs hR
 have MK := fun W => dotTy.run_mk0 xs.length (by have := HN.out; omega) W
 go_enter Tryz.func30, Tryz.ntmps30
 go_wp2_with fail
 refine CK.out.mono ?_
 rintro r w1 ⟨rfl, hc⟩
 have C1 := Lib.hid hc
 clear hc CK
 rcases stE_two es with e1 | e1
 rotate_left
 ·
  have ER : R = (2, []) := by
   rw [← HR.out]
   unfold knownE
   rw [if_neg (fun q => by rw [stE_zero.2 q] at e1; cases e1)]
  subst ER
  rw [e1]
  clear e1 HR MK; go_wp2; go_ret2
  exact ⟨none, 0, rfl, OwnK.none_ _, C1.out⟩
 have ER : Hid (R = ofE (dotsE es)) := Lib.hid (by rw [← HR.out]; unfold knownE; rw [if_pos (stE_zero.1 e1)])
 rw [e1]
 clear e1 HR
 obtain ⟨w2, hw2, c2, b2⟩ := news1 w1 (.cells (dotTy.flat (List.replicate xs.length dotTy.z)).toArray 24)
 have W2 := Lib.hid hw2
 have O2 : Hid (OwnK dotTy w2 (some ⟨w1.heap.size, 0, none⟩) xs.length []) := Lib.hid (OwnK.of (full := List.replicate xs.length dotTy.z) b2 (Nat.zero_le _) (by have := HN.out; unfold maxLen; omega) (by simp) (by simp))
 have C2 := Lib.hid (C1.out.trans c2)
 have MK1 : (Instr.makeSlice 64 (.int .i64 0) (.int .i64 (xs.length : Int))).run Tryz.prog w1 = .ok (.slice (some ⟨w1.heap.size, 0, none⟩) 0 xs.length) (w1.alloc (.cells (dotTy.flat (List.replicate xs.length dotTy.z)).toArray 24)) := MK w1
 rw [← hw2] at MK1
 clear hw2 c2 b2 MK; go_wp2_with fail
 go_loopw [5, 18] (fun v5 v18 wr => ∃ (k n : Nat) (A1 : Option Addr) (d1 : Nat), k ≤ xs.length ∧ v18 = .int .i64 (k : Int) ∧ v5 = .slice A1 n d1 ∧ Hid ((dotsE (es.take k)).length = n) ∧ Hid (OwnK dotTy wr A1 d1 (dotsE (es.take k))) ∧ Hid (∀ a, A1 = some a → w.heap.size ≤ a.block) ∧ Hid (Chg [] w wr)) (fun _ v18 _ => xs.length - (RowKit.intOf v18).toNat)
 case atStart => exact ⟨0, 0, _, _, Nat.zero_le _, rfl, rfl, Lib.hid rfl, O2, Lib.hid (fun a ha => by cases ha; exact C1.out.size), C2⟩
 case round =>
  obtain ⟨k, n, A1, d1, hk, rfl, rfl, HL, OD, NA, PC⟩ := hrel
  have j0 : (0 : Int) ≤ (k : Int) := by omega
  clear MK1
  by_cases hlt : k < xs.length
  ·
   have j1 : (k : Int) < (xs.length : Int) := by omega
   have j3 : IntKind.i64.wrap ((k : Int) + 1) = (k : Int) + 1 := IntWalk.i64_in _ (by have := HN.out; omega)
   obtain ⟨g3, o3, eA, _⟩ := HA.out.line (by omega)
   subst eA
   obtain ⟨x, e, ex, ee, rx⟩ := HX.out.at_ hlt
   obtain ⟨z0, z1, z2, z3, z4, z5, z6⟩ := evCells (HA.out.chg PC.out (by simp)) ex
   have DN : Hid (dotsE (es.take (k + 1)) = dotsE (es.take k) ++ [(x.n, x.s)]) := Lib.hid (by unfold dotsE; rw [List.take_add_one, ee, rx.n, rx.s]; simp)
   clear ex ee rx
   obtain ⟨w5, hw5, c5, b5⟩ := news1 wr (.cells #[.int .i64 x.n, .int .i64 x.s, .string x.p, .int .i64 x.k, .int .i64 x.m, .slice x.A x.l x.c, .slice x.B x.bl x.bc] 30)
   have W5 := Lib.hid hw5
   have y0 := cell_of b5 0
   have y1 := cell_of b5 1
   simp only [List.getElem?_toArray, List.getElem?_cons_succ, List.getElem?_cons_zero] at y0 y1
   obtain ⟨w6, hw6, c6, b6⟩ := news1 w5 (.cells #[.int .i64 x.n, .int .i64 x.s] 24)
   have W6 := Lib.hid hw6
   have RX : Hid (RdK dotTy w6 (some ⟨w5.heap.size, 0, none⟩) 1 [(x.n, x.s)]) := Lib.hid ⟨rfl, fun j v hj => ⟨_, rfl, by rw [add_zero_lit, cell_of b6 j]; simpa [RowTy.flat, dotTy] using hj⟩⟩
   have OD6 := Lib.hid (OD.out.chg (c5.trans c6) (by simp))
   have C6 := Lib.hid (PC.out.trans (c5.trans c6))
   have LN : Hid ((n + 1) * 400 ≤ 140737488355327) := Lib.hid (by have := HL.out; unfold dotsE at this; rw [List.length_map, List.length_take] at this; have := HN.out; omega)
   clear hw5 c5 b5 hw6 c6 b6 OD
   go_upto_region 8 with fail
   rw [← W5.out]
   generalize wr.heap.size = g5 at *
   clear W5 z0 z1 z2 z3 z4 z5 z6
   go_wp2_with (at_builtin; rw [← W6.out]; refine wpList_appK (R := dotTy) rfl (.tmp 22) (.tmp 25) rfl rfl OD6.out HL.out rfl RX.out LN.out ?_; intro A3 c3 w3 o3 g3 e3)
   have HL1 : Hid ((dotsE (es.take (k + 1))).length = n + 1) := Lib.hid (by rw [DN.out, List.length_append, HL.out]; rfl)
   have O3 : Hid (OwnK dotTy w3 A3 c3 (dotsE (es.take (k + 1)))) := Lib.hid (by rw [DN.out]; exact o3)
   have C3 := Lib.hid (C6.out.grown g3 (fun i hi => by
    rcases A1 with _ | a
    ·
     simp at hi
    ·
     simp at hi; subst hi; exact .inr (NA.out _ rfl)))
   have NA3 : Hid (∀ a, A3 = some a → w.heap.size ≤ a.block) := Lib.hid (fun a ha => by
    rcases e3 with e | e
    ·
     exact NA.out a (by rw [← e]; exact ha)
    ·
     rw [e] at ha; cases ha; exact C6.out.size)
   clear o3 g3 e3 y0 y1 W6 RX OD6; go_wp2; go_round
   case rel => exact ⟨k + 1, n + 1, A3, c3, by omega, by go_num, by first | rfl | go_num, HL1, O3, NA3, C3⟩
   case measure => simp [RowKit.intOf]; omega
  ·
   obtain rfl : k = xs.length := by omega
   have j1 : ¬ (xs.length : Int) < (xs.length : Int) := by omega
   have e1 : es.take xs.length = es := by rw [HX.out.1, List.take_length]
   rw [e1] at HL OD
   clear e1
   have LD : Hid ((dotsE es).length ≤ 100000) := Lib.hid (by unfold dotsE; rw [List.length_map, ← HX.out.1]; exact HN.out)
   have OF := Lib.hid (paof_any wr A1 d1 (dotsE es) OD.out.reads LD.out)
   rw [HL.out] at OF
   go_wp2_with fail
   refine OF.out.mono ?_
   rintro r w5 ⟨A5, c5, rfl, ho, hA, hc⟩
   have ER2 := ER.out
   subst ER2
   have P5 := Lib.hid (And.intro ho (PC.out.trans hc))
   clear ho hA hc OF; go_wp2; go_ret2
   exact ⟨A5, c5, rfl, P5.out.1, P5.out.2⟩
end
end Go.Proofs.YtomgjogkkoigbaaGreatDoor
