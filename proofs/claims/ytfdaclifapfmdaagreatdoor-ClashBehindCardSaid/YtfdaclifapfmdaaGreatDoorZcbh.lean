/- ClashBehind. Rows of events as arguments. -/
import Derived.Test.YtfdaclifapfmdaaGreatDoorZcbg
import Derived.Test.YtfdaclifapfmdaaGreatDoorZcam
import Derived.Test.YtfdaclifapfmdaaGreatDoorZcaa
import Derived.Test.YtfdaclifapfmdaaGreatDoorZcab
import Derived.Deep.Cut
import Derived.Test.YtfdaclifapfmdaaGreatDoorZcag
namespace Go.Proofs.YtfdaclifapfmdaaGreatDoor
section
open Go.RowKit Go.Lib
set_option linter.unusedSimpArgs false
set_option linter.unusedVariables false


set_option maxRecDepth 100000 in
set_option maxHeartbeats 32000000 in
theorem clashbehind_yes (w : World) (A : Option Addr) (n c : Nat) (xs : List EvT) (es : List EvP) (B : Option Addr) (nb cb : Nat) (bs : List Bool) (p : List UInt8) (kind : Int) (hb : RdK evTy w A n xs) (hr : EvsR w xs es) (hn : n * 96 ≤ 140737488351232) (hm : n ≤ c) (hz : ∀ (i : Nat) (x : EvT) (e : EvP), xs[i]? = some x → es[i]? = some e → EvZ x e) (hbs : RdK boolTy w B nb bs) (hnb : nb * 1 ≤ 140737488351232) (hp : p.length ≤ 140737488351232) :
    Calls Tryz.prog 6 #[.slice A n c, .slice B nb cb, .string (strOf p), .int .i64 kind] w fun r w' => r = .returned (.bool true) ∧ Chg [] w w' := by
  have hlb := hbs.len
  subst hlb

  have HFT := Lib.hid (fit_args hr hz)
  have hl := hb.len
  subst hl
  have HL0 : Hid (xs.length ≤ 140737488351232) := Lib.hid (by omega)
  have XL : Hid (∀ x ∈ xs, x.l ≤ 140737488351232) := Lib.hid (fun x hx => by
    obtain ⟨i, hi⟩ := List.getElem?_of_mem hx
    obtain ⟨x2, e, ex, ee, rx⟩ := hr.at_ (show i < xs.length from (List.getElem?_eq_some_iff.1 hi).1)
    rw [hi] at ex
    cases ex
    have a := rx.l
    have b := (hz i x e hi ee).1
    omega)
  have HA := Lib.hid hb
  have HR := Lib.hid hr
  have HB := Lib.hid hbs
  have HBN := Lib.hid hnb
  have HP := Lib.hid hp
  have C := Lib.hid (Chg.refl [] w)
  clear hb hr hn hm hz hbs hnb hp
  go_enter Tryz.func6, Tryz.ntmps6
  go_wp2_with fail
  refine (clashAwake_run _).mono ?_
  rintro r w0 ⟨rfl, hc⟩
  replace C := Lib.hid (C.out.trans hc)
  clear hc
  go_wp2_with fail
  have lv := longevs_any w0 A c xs 15 (HA.out.chg C.out (by simp)) HL0.out (by omega) XL.out
  rw [show ((15 : Nat) : Int) = 15 from rfl] at lv
  refine lv.mono ?_
  rintro r w1 ⟨rfl, hc⟩
  clear lv
  replace C := Lib.hid (C.out.trans hc)
  clear hc
  rcases hlong : longE xs 15 with _ | _
  rotate_left
  · go_wp2
    go_ret
    first | exact C.out | exact ⟨rfl, C.out⟩
  have sm := smallEvs HR.out hlong
  have SM : Hid (∀ e ∈ es, EvSm e) := Lib.hid (fun e he => (sm.1 e he).1)
  have QS : Hid (∀ e ∈ es, e.q.length ≤ 100) := Lib.hid (fun e he => (sm.1 e he).2.1)
  have LN : Hid (xs.length ≤ 15) := Lib.hid sm.2
  have AL : Hid ((allsE es).length ≤ 4000) := Lib.hid (alls_short (fun e he => (sm.1 e he).2.1) (by have := HR.out.1; have := sm.2; omega))
  clear sm hlong
  go_wp2_with fail
  refine (evclosed_any w1 A c xs es (HA.out.chg C.out (by simp)) (HR.out.chg C.out) (HFT.out.chg C.out) (by have := LN.out; omega) SM.out).mono ?_
  rintro r w2 ⟨rfl, hc⟩
  replace C := Lib.hid (C.out.trans hc)
  clear hc
  rcases hcl : closedE es with _ | _
  · go_wp2
    go_ret
    first | exact C.out | exact ⟨rfl, C.out⟩
  have OKA := Lib.hid (closed_ok hcl).1
  clear hcl
  go_wp2_with fail
  refine (phcheck_any w2 p HP.out).mono ?_
  rintro r w3 ⟨rfl, hb3⟩
  have hc := below_chg8 hb3
  clear hb3
  replace C := Lib.hid (C.out.trans hc)
  clear hc
  by_cases hpp : checkL 6 12 p = true
  rotate_left
  · rw [if_neg hpp]
    clear hpp
    go_wp2
    go_ret
    first | exact C.out | exact ⟨rfl, C.out⟩
  rw [if_pos hpp]
  have PK := Lib.hid hpp
  have PSM := Lib.hid (path_small hpp)
  clear hpp
  go_wp2
  go_loopw [10, 11] (fun o v wr => ∃ (k : Nat) (A2 : Option Addr) (c2 : Nat) (ys : List EvT) (fs : List EvP), k ≤ xs.length ∧ v = .int .i64 k ∧ o = .slice A2 ys.length c2 ∧ Hid (OwnK evTy wr A2 c2 ys) ∧ Hid (EvsR w ys fs) ∧ Hid ((∀ e ∈ fs, e ∈ es) ∧ ys.length ≤ k) ∧ Hid (∀ a, A2 = some a → w.heap.size ≤ a.block) ∧ Hid (Chg [] w wr)) (fun _ v _ => xs.length - (RowKit.intOf v).toNat)
  case atStart => exact ⟨0, none, 0, [], [], Nat.zero_le _, rfl, rfl, OwnK.none_ _, EvsR.nil _, Lib.hid (by simp), Lib.hid (by simp), C⟩
  case round =>
    clear C
    obtain ⟨k, A2, c2, ys, fs, hk, rfl, rfl, PO, PE, PS, PN, PC⟩ := hrel
    have j0 : (0 : Int) ≤ (k : Int) := by omega
    by_cases hlt : k < xs.length
    · have j1 : (k : Int) < (xs.length : Int) := by omega
      have j3 : IntKind.i64.wrap ((k : Int) + 1) = (k : Int) + 1 := IntWalk.i64_in _ (by have := LN.out; omega)
      have skip : ∀ b, b = false → True := fun _ _ => trivial
      clear skip
      by_cases hb1 : k < bs.length
      rotate_left
      · have b1 : ¬ (k : Int) < (bs.length : Int) := by omega
        go_wp2
        go_round
        case rel => exact ⟨k + 1, A2, c2, ys, fs, by omega, by go_num, rfl, PO, PE, Lib.hid ⟨PS.out.1, Nat.le_succ_of_le PS.out.2⟩, PN, PC⟩
        case measure => simp [RowKit.intOf]; omega
      have b1 : (k : Int) < (bs.length : Int) := by omega
      obtain ⟨gb, ob, eB, _⟩ := HB.out.line (by omega)
      have EB := Lib.hid eB
      rw [eB]
      have hbb : bs[k]? = some bs[k] := List.getElem?_eq_getElem hb1
      obtain ⟨b, hbe⟩ : ∃ b, bs[k] = b := ⟨_, rfl⟩
      rw [hbe] at hbb
      have zb := boolCells ((eB ▸ HB.out).chg PC.out (by simp)) hbb
      clear eB hbb hbe
      rcases b with _ | _
      · go_wp2
        go_round
        case rel => exact ⟨k + 1, A2, c2, ys, fs, by omega, by go_num, rfl, PO, PE, Lib.hid ⟨PS.out.1, Nat.le_succ_of_le PS.out.2⟩, PN, PC⟩
        case measure => simp [RowKit.intOf]; omega
      obtain ⟨g3, o3, eA, _⟩ := HA.out.line (by omega)
      have EA := Lib.hid eA
      rw [eA]
      obtain ⟨x, e, ex, ee, rx⟩ := HR.out.at_ hlt
      obtain ⟨z0, z1, z2, z3, z4, z5, z6⟩ := evCells ((eA ▸ HA.out).chg PC.out (by simp)) ex
      have RX := Lib.hid rx
      have EM := Lib.hid (List.mem_of_getElem? ee)
      clear eA ex ee rx
      obtain ⟨w7, hw, cn, bn⟩ := news1 wr (.cells #[.int .i64 x.n, .int .i64 x.s, .string x.p, .int .i64 x.k, .int .i64 x.m, .slice x.A x.l x.c, .slice x.B x.bl x.bc] 29)
      have W7 := Lib.hid hw
      have XR := Lib.hid (rd_oneEc bn)
      replace PO := Lib.hid (PO.out.chg cn (by simp))
      replace PC := Lib.hid (PC.out.trans cn)
      have N4 : Hid ((ys.length + 1) * 400 ≤ 140737488355327) := Lib.hid (by have := PS.out.2; have := LN.out; omega)
      clear hw cn bn
      go_wp2_with (first | (at_builtin; rw [← W7.out]; refine wpList_appK (R := evTy) rfl (.tmp 48) (.tmp 53) rfl rfl (A := A2) (n := ys.length) (m := 1) (c := c2) (d := 1) (xs := ys) (ys := [x]) PO.out rfl rfl XR.out N4.out ?_; intro A9 c9 w9 o9 g9 e9))
      have O9 := Lib.hid o9
      have F9 := Lib.hid (fresh_appE PN.out PC.out g9 e9)
      have NL : Hid (ys.length + 1 = (ys ++ [x]).length) := Lib.hid (by simp)
      clear o9 g9 e9 z0 z1 z2 z3 z4 z5 z6 zb
      rw [NL.out]
      go_wp2
      go_round
      case rel => exact ⟨k + 1, A9, c9, ys ++ [x], fs ++ [e], by omega, by go_num, rfl, O9, Lib.hid (PE.out.snoc RX.out), Lib.hid ⟨fun f hf => (List.mem_append.1 hf).elim (PS.out.1 f) (fun q => by rw [List.mem_singleton.1 q]; exact EM.out), by have := PS.out.2; simp; omega⟩, Lib.hid F9.out.1, Lib.hid F9.out.2⟩
      case measure => simp [RowKit.intOf]; omega
    · obtain rfl : k = xs.length := by omega
      have j1 : ¬ (xs.length : Int) < (xs.length : Int) := by omega
      have C := PC
      have FM := Lib.hid (fun e he => SM.out e (PS.out.1 e he) : ∀ e ∈ fs, EvSm e)
      have YN : Hid (ys.length ≤ 15) := Lib.hid (by have := PS.out.2; have := LN.out; omega)
      have AF : Hid ((allsE fs).length ≤ 4000) := Lib.hid (alls_short (fun e he => QS.out e (PS.out.1 e he)) (by have := PE.out.1; have := YN.out; omega))
      have OKF := Lib.hid (okAll_sub OKA.out PS.out.1)
      have P1 : Hid (pastE fs = (0, tidyS (allsE fs))) := Lib.hid (by unfold pastE; rw [if_pos OKF.out, bound_le (Nat.le_trans (tidy_len _) AF.out)])
      have P2 : Hid (pastE es = (0, tidyS (allsE es))) := Lib.hid (by unfold pastE; rw [if_pos OKA.out, bound_le (Nat.le_trans (tidy_len _) AL.out)])
      clear PC
      go_wp2_with fail
      refine (evpast_any wr A2 c2 ys fs PO.out.reads (PE.out.chg C.out) (by have := YN.out; omega) FM.out).mono ?_
      rintro r w3 ⟨A3, c3, rfl, ho, hnw, hc⟩
      rw [P1.out] at ho ⊢
      have O3 := Lib.hid ho
      have N3 : Hid (∀ a, A3 = some a → w.heap.size ≤ a.block) := Lib.hid (fun a ha => Nat.le_trans C.out.size (hnw a ha))
      replace C := Lib.hid (C.out.trans hc)
      replace PO := Lib.hid (PO.out.chg hc (by simp))
      clear hc ho hnw
      go_wp2_with fail
      refine (evpast_any w3 A c xs es (HA.out.chg C.out (by simp)) (HR.out.chg C.out) (by have := LN.out; omega) SM.out).mono ?_
      rintro r w4 ⟨A4, c4, rfl, ho, hnw, hc⟩
      rw [P2.out] at ho ⊢
      have O4 := Lib.hid ho
      replace C := Lib.hid (C.out.trans hc)
      replace PO := Lib.hid (PO.out.chg hc (by simp))
      replace O3 := Lib.hid (O3.out.chg hc (by simp))
      clear hc ho hnw
      go_wp2_with fail
      refine (l11free_any w4 A4 c4 (tidyS (allsE es)) O4.out.reads (by have := AL.out; have := tidy_len (allsE es); omega)).mono ?_
      rintro r w5 ⟨nd, rfl, hnd, hc⟩
      have ND := Lib.hid hnd
      replace C := Lib.hid (C.out.trans hc)
      replace PO := Lib.hid (PO.out.chg hc (by simp))
      replace O3 := Lib.hid (O3.out.chg hc (by simp))
      replace O4 := Lib.hid (O4.out.chg hc (by simp))
      clear hc hnd O4
      have m0 : 0 ≤ kind % 3 := Int.emod_nonneg _ (by decide)
      have m1 : kind % 3 < 3 := Int.emod_lt_of_pos _ (by decide)
      obtain ⟨kd, hkd⟩ : ∃ kd, 1 + kind % 3 = kd := ⟨_, rfl⟩
      have m2 : IntKind.i64.wrap (1 + kind % 3) = kd := by rw [← hkd]; exact IntWalk.i64_in _ (by omega)
      go_wp2_with fail
      refine (pick_any w5 kind 3 (by decide) (by decide)).mono ?_
      rintro r w6 ⟨rfl, rfl⟩
      have KO : Hid (chkE kd 0 0 = 0) := Lib.hid (hkd ▸ kind_ok kind)
      clear hkd m0 m1
      obtain ⟨N, hN⟩ : ∃ N : EvT, N = ⟨nd, 1, strOf p, kd, 0, none, 0, 0, A3, (tidyS (allsE fs)).length, c3⟩ := ⟨_, rfl⟩
      have RN0 : Hid (EvR w5 N (nextG fs nd kd p)) := Lib.hid (by
        rw [hN]
        exact ⟨rfl, rfl, rfl, rfl, rfl, rfl, rfl, Bs.nil _ _, O3.out.reads⟩)
      have NS : Hid (EvSm (nextG fs nd kd p)) := Lib.hid ⟨by show p.length ≤ _; have := PSM.out; omega, by show (0 : Nat) ≤ _; omega, by show (tidyS (allsE fs)).length ≤ _; have := AF.out; have := tidy_len (allsE fs); omega⟩
      obtain ⟨w6, hw, hc, b6⟩ := news1 w5 (.cells #[.int .i64 N.n, .int .i64 N.s, .string N.p, .int .i64 N.k, .int .i64 N.m, .slice N.A N.l N.c, .slice N.B N.bl N.bc] 29)
      have W6 := Lib.hid hw
      have B6 := Lib.hid b6
      have RN := Lib.hid (RN0.out.chg hc)
      have NN : Hid (N.n = nd) := Lib.hid (by rw [hN])
      replace C := Lib.hid (C.out.trans hc)
      replace PO := Lib.hid (PO.out.chg hc (by simp))
      clear hw hc b6 RN0 O3
      have VN : Hid ((.cells #[.int .i64 nd, .int .i64 1, .string (strOf p), .int .i64 kd, .int .i64 0, .slice none 0 0, .slice A3 (tidyS (allsE fs)).length c3] 29 : Obj) = .cells #[.int .i64 N.n, .int .i64 N.s, .string N.p, .int .i64 N.k, .int .i64 N.m, .slice N.A N.l N.c, .slice N.B N.bl N.bc] 29) := Lib.hid (by rw [hN])
      clear hN
      go_upto_region 15 with fail
      rw [VN.out, ← W6.out]
      generalize w5.heap.size = g6 at *
      clear W6 VN m2
      have z0 := cell_of B6.out 0
      have z1 := cell_of B6.out 1
      have z2 := cell_of B6.out 2
      have z3 := cell_of B6.out 3
      have z4 := cell_of B6.out 4
      have z5 := cell_of B6.out 5
      have z6 := cell_of B6.out 6
      simp only [List.getElem?_toArray, List.getElem?_cons_succ, List.getElem?_cons_zero] at z0 z1 z2 z3 z4 z5 z6
      by_cases h0 : nd = 0
      · have d0 : ((N.n == 0) : Bool) = true := by rw [NN.out, h0]; rfl
        clear h0
        go_wp2
        go_ret
        first | exact C.out | exact ⟨rfl, C.out⟩
      have d0 : ((N.n == 0) : Bool) = false := by rw [NN.out]; exact beq_eq_false_iff_ne.2 h0
      have d1 : ¬ N.n = 0 := by rw [NN.out]; exact h0
      have N1 : Hid (1 ≤ nd ∧ nd ≤ 200 ∧ ∀ x ∈ tidyS (allsE es), x.1 ≠ nd) := Lib.hid (ND.out.resolve_left h0)
      have NC := Lib.hid (nextG_chk OKF.out AF.out N1.out.1 N1.out.2.1 (past_sub OKA.out PS.out.1 N1.out.2.2) KO.out PK.out)
      have NF : Hid (withL fs (nextG fs nd kd p) = []) := Lib.hid (by unfold withL; rw [nextG_free OKF.out NC.out]; rfl)
      clear h0
      generalize nextG fs nd kd p = nx at *
      go_wp2_with fail
      clear d0 d1 z0 z1 z2 z3 z4 z5 z6
      refine (evcheck_any w6 N nx RN.out NS.out).mono ?_
      rintro r w7 ⟨rfl, hc⟩
      rw [NC.out]
      replace C := Lib.hid (C.out.trans hc)
      replace PO := Lib.hid (PO.out.chg hc (by simp))
      replace RN := Lib.hid (RN.out.chg hc)
      replace B6 := Lib.hid (hc.at_ B6.out (by simp))
      clear hc
      have z0 := cell_of B6.out 0
      have z1 := cell_of B6.out 1
      have z2 := cell_of B6.out 2
      have z3 := cell_of B6.out 3
      have z4 := cell_of B6.out 4
      have z5 := cell_of B6.out 5
      have z6 := cell_of B6.out 6
      simp only [List.getElem?_toArray, List.getElem?_cons_succ, List.getElem?_cons_zero] at z0 z1 z2 z3 z4 z5 z6
      go_wp2_with fail
      clear z0 z1 z2 z3 z4 z5 z6
      refine (clwith_any w7 A2 c2 ys fs N nx PO.out.reads (PE.out.chg C.out) RN.out (by have := YN.out; omega) FM.out NS.out).mono ?_
      rintro r w8 ⟨A8, c8, rfl, -, -, hc⟩
      have SL : (sortD (withL fs nx)).length = 0 := by rw [NF.out]; have a : sortL [] = [] := List.eq_nil_of_length_eq_zero (sortL_len []); unfold sortD; rw [a, cmpct_small (by simp)]; rfl
      rw [SL]
      clear SL
      replace C := Lib.hid (C.out.trans hc)
      replace PO := Lib.hid (PO.out.chg hc (by simp))
      replace RN := Lib.hid (RN.out.chg hc)
      replace B6 := Lib.hid (hc.at_ B6.out (by simp))
      clear hc
      have HC : Hid (∀ w', Chg [] w w' → ∀ g o, A = some ⟨g, o, none⟩ → ∀ i x, xs[i]? = some x → (w'.cell? ⟨g, o + i * 7, none⟩ = some (.int .i64 x.n) ∧ w'.cell? ⟨g, o + i * 7 + 1, none⟩ = some (.int .i64 x.s) ∧ w'.cell? ⟨g, o + i * 7 + 2, none⟩ = some (.string x.p) ∧ w'.cell? ⟨g, o + i * 7 + 3, none⟩ = some (.int .i64 x.k) ∧ w'.cell? ⟨g, o + i * 7 + 4, none⟩ = some (.int .i64 x.m) ∧ w'.cell? ⟨g, o + i * 7 + 5, none⟩ = some (.slice x.A x.l x.c) ∧ w'.cell? ⟨g, o + i * 7 + 6, none⟩ = some (.slice x.B x.bl x.bc))) := Lib.hid (fun w' hc g o eA i x hx => by
        subst eA
        exact evCells (HA.out.chg hc (by simp)) hx)
      have SZ8 := Lib.hid C
      go_wp2
      go_loopw [17] (fun v wr => ∃ (i : Nat), i ≤ xs.length ∧ v = .int .i64 i ∧ Hid (Chg [] w8 wr)) (fun v _ => xs.length - (RowKit.intOf v).toNat)
      case atStart => exact ⟨0, Nat.zero_le _, rfl, Lib.hid (Chg.refl [] w8)⟩
      case round =>
        obtain ⟨i, hi, rfl, D⟩ := hrel
        have i0 : (0 : Int) ≤ (i : Int) := by omega
        by_cases hil : i < xs.length
        · have i1 : (i : Int) < (xs.length : Int) := by omega
          have i3 : IntKind.i64.wrap ((i : Int) + 1) = (i : Int) + 1 := IntWalk.i64_in _ (by have := LN.out; omega)
          obtain ⟨g, o, eA, _⟩ := HA.out.line (by omega)
          have EA := Lib.hid eA
          rw [eA]
          clear eA
          obtain ⟨x, e, ex, ee, rx⟩ := HR.out.at_ hil
          have A1 := Lib.hid (fun w' (hc : Chg [] wr w') => clClash_any w' x N e nx (rx.chg (C.out.trans (D.out.trans hc))) (RN.out.chg (D.out.trans hc)) (SM.out e (List.mem_of_getElem? ee)) NS.out)
          have A2_ := Lib.hid (fun w' (hc : Chg [] wr w') => evahead_any w' x N e nx (rx.chg (C.out.trans (D.out.trans hc))) (RN.out.chg (D.out.trans hc)) (SM.out e (List.mem_of_getElem? ee)) NS.out)
          have HB6 : Hid (∀ w', Chg [] wr w' → w'.cell? ⟨g6, 0, none⟩ = some (.int .i64 N.n) ∧ w'.cell? ⟨g6, 1, none⟩ = some (.int .i64 N.s) ∧ w'.cell? ⟨g6, 2, none⟩ = some (.string N.p) ∧ w'.cell? ⟨g6, 3, none⟩ = some (.int .i64 N.k) ∧ w'.cell? ⟨g6, 4, none⟩ = some (.int .i64 N.m) ∧ w'.cell? ⟨g6, 5, none⟩ = some (.slice N.A N.l N.c) ∧ w'.cell? ⟨g6, 6, none⟩ = some (.slice N.B N.bl N.bc)) := Lib.hid (fun w' hc => by
            have b := (D.out.trans hc).at_ B6.out (by simp)
            exact ⟨cell_of b 0, cell_of b 1, cell_of b 2, cell_of b 3, cell_of b 4, cell_of b 5, cell_of b 6⟩)
          have HH := Lib.hid (fun w' (hc : Chg [] wr w') => And.intro (HC.out w' (C.out.trans (D.out.trans hc)) g o EA.out i x ex) (HB6.out w' hc))
          clear ex ee rx HB6
          go_upto_region 22 with fail
          rcases hcv : clashP e nx with _ | _
          · skip
            refine wp_region_held_drew (S := fun w' => Chg [] wr w') (by kernel_rfl) (Chg.refl [] wr).drew (fun hHeld => ?_)
            refine sy 0 102 rfl rfl ?_
            try simp only [Act.put, sA, s0, s1]
            refine sy 1 103 rfl rfl ?_
            try simp only [Act.put, sA, s0, s1]
            refine sy 2 104 rfl rfl ?_
            try simp only [Act.put, sA, s0, s1]
            refine sy 3 105 rfl rfl ?_ (hy := by (intro w hSw; (try dsimp only at hSw); have hq := HH.out _ hSw; obtain ⟨⟨q0, q1, q2, q3, q4, q5, q6⟩, ⟨p0, p1, p2, p3, p4, p5, p6⟩⟩ := hq; go_simp; try with_reducible rfl))
            try simp only [Act.put, sA, s0, s1]
            refine sy 4 106 rfl rfl ?_ (hy := by (intro w hSw; (try dsimp only at hSw); have hq := HH.out _ hSw; obtain ⟨⟨q0, q1, q2, q3, q4, q5, q6⟩, ⟨p0, p1, p2, p3, p4, p5, p6⟩⟩ := hq; go_simp; try with_reducible rfl))
            try simp only [Act.put, sA, s0, s1]
            refine wpAnyH_ready (rs := [5]) (by kernel_rfl) (by simp) ?_
            refine AllReadyH.cons rfl (fun K hK => ?_) AllReadyH.nil
            replace hK := Lib.hid hK
            go_simp
            refine (A1.out _ hHeld).mono ?_
            rintro r wa ⟨rfl, hc⟩
            rw [hcv]
            have Ca := Lib.hid (hHeld.trans hc)
            clear hc hHeld
            refine hK.out _ _ Ca.out (fun hHeld => ?_)
            clear hK K
            try simp only [Act.put, sA, s0, s1]
            refine sy 6 108 rfl rfl ?_
            try simp only [Act.put, sA, s0, s1]
            refine sn 7 109 rfl rfl ?_
            try simp only [Act.put, sA, s0, s1]
            refine sn 8 110 rfl rfl ?_
            try simp only [Act.put, sA, s0, s1]
            refine sn 9 111 rfl rfl ?_
            try simp only [Act.put, sA, s0, s1]
            refine sn 10 112 rfl rfl ?_
            try simp only [Act.put, sA, s0, s1]
            refine sn 11 113 rfl rfl ?_
            try simp only [Act.put, sA, s0, s1]
            refine sn 12 114 rfl rfl ?_
            try simp only [Act.put, sA, s0, s1]
            refine sy 13 115 rfl rfl ?_
            try simp only [Act.put, sA, s0, s1]
            refine wpAnyH_done (by kernel_rfl) ?_ _
            clear hHeld
            have DT := Lib.hid (D.out.trans Ca.out)
            clear A1 A2_ HH
            go_wp2
            go_round
            case rel => exact ⟨i + 1, by omega, by go_num, DT⟩
            case measure => simp [RowKit.intOf]; omega
          · skip
            have AN : aheadP e nx = false := by
              rcases q : aheadP e nx with _ | _
              · rfl
              · rw [clash_no q] at hcv; cases hcv
            refine wp_region_held_drew (S := fun w' => Chg [] wr w') (by kernel_rfl) (Chg.refl [] wr).drew (fun hHeld => ?_)
            refine sy 0 102 rfl rfl ?_
            try simp only [Act.put, sA, s0, s1]
            refine sy 1 103 rfl rfl ?_
            try simp only [Act.put, sA, s0, s1]
            refine sy 2 104 rfl rfl ?_
            try simp only [Act.put, sA, s0, s1]
            refine sy 3 105 rfl rfl ?_ (hy := by (intro w hSw; (try dsimp only at hSw); have hq := HH.out _ hSw; obtain ⟨⟨q0, q1, q2, q3, q4, q5, q6⟩, ⟨p0, p1, p2, p3, p4, p5, p6⟩⟩ := hq; go_simp; try with_reducible rfl))
            try simp only [Act.put, sA, s0, s1]
            refine sy 4 106 rfl rfl ?_ (hy := by (intro w hSw; (try dsimp only at hSw); have hq := HH.out _ hSw; obtain ⟨⟨q0, q1, q2, q3, q4, q5, q6⟩, ⟨p0, p1, p2, p3, p4, p5, p6⟩⟩ := hq; go_simp; try with_reducible rfl))
            try simp only [Act.put, sA, s0, s1]
            refine wpAnyH_ready (rs := [5]) (by kernel_rfl) (by simp) ?_
            refine AllReadyH.cons rfl (fun K hK => ?_) AllReadyH.nil
            replace hK := Lib.hid hK
            go_simp
            refine (A1.out _ hHeld).mono ?_
            rintro r wa ⟨rfl, hc⟩
            rw [hcv]
            have Ca := Lib.hid (hHeld.trans hc)
            clear hc hHeld
            refine hK.out _ _ Ca.out (fun hHeld => ?_)
            clear hK K
            try simp only [Act.put, sA, s0, s1]
            refine sy 6 108 rfl rfl ?_
            try simp only [Act.put, sA, s0, s1]
            refine sy 7 109 rfl rfl ?_
            try simp only [Act.put, sA, s0, s1]
            refine sy 8 110 rfl rfl ?_
            try simp only [Act.put, sA, s0, s1]
            refine sy 9 111 rfl rfl ?_
            try simp only [Act.put, sA, s0, s1]
            refine sy 10 112 rfl rfl ?_ (hy := by (intro w hSw; (try dsimp only at hSw); have hq := HH.out _ hSw; obtain ⟨⟨q0, q1, q2, q3, q4, q5, q6⟩, ⟨p0, p1, p2, p3, p4, p5, p6⟩⟩ := hq; go_simp; try with_reducible rfl))
            try simp only [Act.put, sA, s0, s1]
            refine sy 11 113 rfl rfl ?_ (hy := by (intro w hSw; (try dsimp only at hSw); have hq := HH.out _ hSw; obtain ⟨⟨q0, q1, q2, q3, q4, q5, q6⟩, ⟨p0, p1, p2, p3, p4, p5, p6⟩⟩ := hq; go_simp; try with_reducible rfl))
            try simp only [Act.put, sA, s0, s1]
            refine wpAnyH_ready (rs := [12]) (by kernel_rfl) (by simp) ?_
            refine AllReadyH.cons rfl (fun K hK => ?_) AllReadyH.nil
            replace hK := Lib.hid hK
            go_simp
            refine (A2_.out _ hHeld).mono ?_
            rintro r wb ⟨rfl, hc⟩
            rw [AN]
            have Cb := Lib.hid (hHeld.trans hc)
            clear hc hHeld
            refine hK.out _ _ Cb.out (fun hHeld => ?_)
            clear hK K
            try simp only [Act.put, sA, s0, s1]
            refine sy 13 115 rfl rfl ?_
            try simp only [Act.put, sA, s0, s1]
            refine wpAnyH_done (by kernel_rfl) ?_ _
            clear hHeld
            have DT := Lib.hid (D.out.trans Cb.out)
            clear A1 A2_ HH
            go_wp2
            go_round
            case rel => exact ⟨i + 1, by omega, by go_num, DT⟩
            case measure => simp [RowKit.intOf]; omega
        · obtain rfl : i = xs.length := by omega
          have i1 : ¬ (xs.length : Int) < (xs.length : Int) := by omega
          have CT := Lib.hid (C.out.trans D.out)
          go_wp2
          go_ret
          first | exact CT.out | exact ⟨rfl, CT.out⟩

theorem clashbehind_s (w : World) (A : Option Addr) (n c : Nat) (xs : List EvT) (es : List EvP) (B : Option Addr) (nb cb : Nat) (bs : List Bool) (s : ByteArray) (kind : Int) (hb : RdK evTy w A n xs) (hr : EvsR w xs es) (hn : n * 96 ≤ 140737488351232) (hm : n ≤ c) (hz : ∀ (i : Nat) (x : EvT) (e : EvP), xs[i]? = some x → es[i]? = some e → EvZ x e) (hbs : RdK boolTy w B nb bs) (hnb : nb * 1 ≤ 140737488351232) (hp : s.size ≤ 140737488351232) :
    Calls Tryz.prog 6 #[.slice A n c, .slice B nb cb, .string s, .int .i64 kind] w fun r w' => r = .returned (.bool true) ∧ Chg [] w w' := by
  have q := clashbehind_yes w A n c xs es B nb cb bs s.data.toList kind hb hr hn hm hz hbs hnb (by simpa using hp)
  rwa [strOf_of] at q
end
section
open Go.RowKit Go.WideShapes Go.ChangeShapes Go.Deep
set_option linter.unusedSimpArgs false
set_option linter.unusedVariables false

section
variable {H : Type} {enc : TypeId × Value → H} {w : World} {base : Nat} {spare : Nat → Bool} {held : Bool}
set_option maxRecDepth 100000 in
set_option maxHeartbeats 1000000 in
theorem open_events {n : Nat} {cs : List Value} {y : DataW H × List MemPlace} (h : DataW.trod enc Tryz.prog w base spare held n 31 cs = some y) (hz : ∀ k ∈ y.1.weights Tryz.prog 31, k ≤ reachBytes) :
    ∃ A m d zs es, cs = [.slice A m d] ∧ RdK evTy w A m zs ∧ EvsR w zs es ∧ m * 96 ≤ 140737488351232 ∧ m ≤ d ∧ ∀ (i : Nat) (x : EvT) (e : EvP), zs[i]? = some x → es[i]? = some e → EvZ x e := by
  rcases open_slice Tryz.underlying31 h with ⟨rfl, _⟩ | ⟨a, len, cap, m, k, D, Pl, rfl, _, hl, hm, hmm, rfl, hi⟩
  · exact ⟨none, 0, 0, [], [], rfl, RdK.nil _ _, EvsR.nil _, by decide, by decide, by simp⟩
  · have hlm : len ≤ m := by rw [hmm]; split <;> omega
    obtain ⟨hw, hwd⟩ := weights_slice Tryz.underlying31 hz
    rw [show Tryz.prog.bytesOf 29 = 96 by kernel_rfl] at hw
    simp [reachBytes] at hw
    have hC : Tryz.prog.cellsOf 29 = 7 := by kernel_rfl
    obtain ⟨l, hll, hat⟩ := list_of (Q := fun i (x : EvT × EvP) => (w.cell? (a.add (i * 7)) = some (.int .i64 x.1.n) ∧ w.cell? (a.add (i * 7 + 1)) = some (.int .i64 x.1.s) ∧ w.cell? (a.add (i * 7 + 2)) = some (.string x.1.p) ∧ w.cell? (a.add (i * 7 + 3)) = some (.int .i64 x.1.k) ∧ w.cell? (a.add (i * 7 + 4)) = some (.int .i64 x.1.m) ∧ w.cell? (a.add (i * 7 + 5)) = some (.slice x.1.A x.1.l x.1.c) ∧ w.cell? (a.add (i * 7 + 6)) = some (.slice x.1.B x.1.bl x.1.bc)) ∧ EvR w x.1 x.2 ∧ EvZ x.1 x.2) len (fun i hilt => by
      obtain ⟨cs', hc, ht⟩ := hi i (by omega)
      rw [hC] at hc
      obtain ⟨_, hcl, hat⟩ := World.cells?_some hc
      obtain ⟨x, e, rfl, hr, hz2⟩ := open_event ht (fun k hk => hwd (D i) (List.mem_map.2 ⟨i, List.mem_range.2 hilt, rfl⟩) k hk)
      have g0 := hat 0 (by simp)
      have g1 := hat 1 (by simp)
      have g2 := hat 2 (by simp)
      have g3 := hat 3 (by simp)
      have g4 := hat 4 (by simp)
      have g5 := hat 5 (by simp)
      have g6 := hat 6 (by simp)
      rw [add_add] at g0 g1 g2 g3 g4 g5 g6
      exact ⟨(x, e), ⟨g0, g1, g2, g3, g4, g5, g6⟩, hr, hz2⟩)
    refine ⟨some a, len, cap, l.map (·.1), l.map (·.2), rfl, ⟨by rw [List.length_map]; exact hll, fun j v hj => ⟨a, rfl, ?_⟩⟩, ⟨by simp, fun i x e hx he => ?_⟩, by omega, hl, fun i x e hx he => ?_⟩
    rotate_left
    · rw [List.getElem?_map, Option.map_eq_some_iff] at hx he
      obtain ⟨p, hp, rfl⟩ := hx
      obtain ⟨q, hq, rfl⟩ := he
      rw [hp] at hq
      cases hq
      exact (hat i _ hp).2.1
    · rw [List.getElem?_map, Option.map_eq_some_iff] at hx he
      obtain ⟨p, hp, rfl⟩ := hx
      obtain ⟨q, hq, rfl⟩ := he
      rw [hp] at hq
      cases hq
      exact (hat i _ hp).2.2
    have hj2 := (List.getElem?_eq_some_iff.1 hj).1
    rw [evTy.flat_len, List.length_map] at hj2
    have hk : evTy.k = 7 := rfl
    rw [hk] at hj2
    have hq : j / 7 < l.length := by omega
    have e := evTy.flat_at (l.map (·.1)) (j / 7) (j % 7) _ (by rw [List.getElem?_map, List.getElem?_eq_getElem hq]; rfl) (Nat.mod_lt _ (by decide))
    rw [hk, Nat.div_add_mod', hj] at e
    obtain ⟨g0, g1, g2, g3, g4, g5, g6⟩ := (hat (j / 7) _ (List.getElem?_eq_getElem hq)).1
    rcases (show j % 7 = 0 ∨ j % 7 = 1 ∨ j % 7 = 2 ∨ j % 7 = 3 ∨ j % 7 = 4 ∨ j % 7 = 5 ∨ j % 7 = 6 by omega) with h0 | h0 | h0 | h0 | h0 | h0 | h0
    · rw [h0] at e
      rw [show j / 7 * 7 = j by omega] at g0
      rw [g0]
      exact e.symm
    · rw [h0] at e
      rw [show j / 7 * 7 + 1 = j by omega] at g1
      rw [g1]
      exact e.symm
    · rw [h0] at e
      rw [show j / 7 * 7 + 2 = j by omega] at g2
      rw [g2]
      exact e.symm
    · rw [h0] at e
      rw [show j / 7 * 7 + 3 = j by omega] at g3
      rw [g3]
      exact e.symm
    · rw [h0] at e
      rw [show j / 7 * 7 + 4 = j by omega] at g4
      rw [g4]
      exact e.symm
    · rw [h0] at e
      rw [show j / 7 * 7 + 5 = j by omega] at g5
      rw [g5]
      exact e.symm
    · rw [h0] at e
      rw [show j / 7 * 7 + 6 = j by omega] at g6
      rw [g6]
      exact e.symm
end
end
end Go.Proofs.YtfdaclifapfmdaaGreatDoor
