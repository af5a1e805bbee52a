/- PastBack. Arguments opened: bytes, numbers, texts: from the data that a row reads to the cells that a walk goes over. Slices of spans as arguments. What is known of a slice that is handed in: its length, its room, its block. Slices of dots as arguments. -/
import Derived.Test.YtgafkphhnlifiaaZpbf
import Derived.Test.YtgafkphhnlifiaaZpbi
import Derived.Test.YtgafkphhnlifiaaZpbc
import Derived.Test.YtgafkphhnlifiaaZpbj
import Derived.Test.YtgafkphhnlifiaaZpbp
import Derived.Test.YtgafkphhnlifiaaZpba
import Derived.Deep.Slices
import Derived.Deep.Fields
import Derived.ChangeSame
import Derived.SizedLaws
import Derived.ChangeArms
import Derived.ChangeSlices
import Derived.OpenShut
import Derived.ProofKit
import Derived.Test.YtgafkphhnlifiaaZpbb
import Derived.WideShapes
namespace Go.Proofs.Ytgafkphhnlifiaa
section
open Go.RowKit Go.Lib
set_option linter.unusedSimpArgs false
set_option linter.unusedVariables false


theorem rd_oneD {w : World} {g : Nat} {x : Int × Int} (h : w.heap[g]? = some (.cells #[.int .i64 x.1, .int .i64 x.2] 37)) : RdK dotTy w (some ⟨g, 0, none⟩) 1 [x] :=
  ⟨rfl, fun j v hj => ⟨_, rfl, by rw [add_zero_lit, cell_of h j]; simpa [RowTy.flat, dotTy] using hj⟩⟩
set_option maxHeartbeats 8000000 in
set_option maxRecDepth 100000 in
theorem pbacklaw_yes (w : World) (A : Option Addr) (m c : Nat) (xs : List Sp) (h : RdK spanTy w A m xs) (hc : m ≤ c ∧ c ≤ maxLen) (ho : ∀ a, A = some a → a.block < w.heap.size) (B : Option Addr) (m' d : Nat) (ys : List UInt8) (hb : Bs w B m' ys) (hm : m' ≤ 140737488351232 ∧ m' ≤ d ∧ d ≤ 9223372036854775807) (n s : Int) :
    Calls Try.prog 6 #[.slice A m c, .slice B m' d, .agg #[.int .i64 n, .int .i64 s]] w fun e w' => e = .returned (.bool true) ∧ Chg [] w w' := by

  have hl := h.len
  subst hl
  have hl := hb.len
  subst hl
  obtain ⟨w0, hw0, c0', b0⟩ := news1 w (.cells #[.int .i64 n, .int .i64 s] 37)
  have W0 := Lib.hid hw0
  have HA := Lib.hid (h.chg c0' (by simp))
  have HB := Lib.hid (hb.chg c0' (by simp))
  have C := Lib.hid c0'
  have B0 := Lib.hid b0
  have HO : Hid (∀ a, A = some a → a.block < w0.heap.size) := Lib.hid (fun a ha => Nat.lt_of_lt_of_le (ho a ha) c0'.size)
  have HC := Lib.hid hc
  have HM0 := Lib.hid hm
  clear hw0 c0' b0 h hb ho hc hm
  go_enter Try.func6, Try.ntmps6
  go_upto_region 1 with fail
  rw [← W0.out]
  generalize w.heap.size = g0 at *
  go_wp2_with fail
  refine (l7awake_run _).mono ?_
  rintro e w1 ⟨rfl, hc⟩
  replace C := Lib.hid (C.out.trans hc)
  replace HA := Lib.hid (HA.out.chg hc (by simp))
  replace HB := Lib.hid (HB.out.chg hc (by simp))
  replace B0 := Lib.hid (hc.at_ B0.out (by simp))
  replace HO : Hid (∀ a, A = some a → a.block < w1.heap.size) := Lib.hid (fun a ha => Nat.lt_of_lt_of_le (HO.out a ha) hc.size)
  clear hc
  by_cases hbig : 200 < xs.length
  · go_wp2_with fail
    refine (palong_any _ A _ c).mono ?_
    rintro e w2 ⟨rfl, hc⟩
    rw [decide_eq_true hbig]
    replace C := Lib.hid (C.out.trans hc)
    clear hc
    go_wp2
    go_ret
    exact ⟨rfl, C.out⟩
  by_cases hbig2 : 3000 < ys.length
  · have h2 : (3000 : Int) < (ys.length : Int) := by omega
    go_wp2_with fail
    refine (palong_any _ A _ c).mono ?_
    rintro e w2 ⟨rfl, hc⟩
    rw [decide_eq_false hbig]
    replace C := Lib.hid (C.out.trans hc)
    clear hc
    go_wp2
    go_ret
    exact ⟨rfl, C.out⟩
  have h2 : ¬ (3000 : Int) < (ys.length : Int) := by omega
  have HS : Hid (xs.length ≤ 200) := Lib.hid (by omega)
  have HM : Hid (ys.length ≤ 3000 ∧ ys.length ≤ d ∧ d ≤ 9223372036854775807) := Lib.hid ⟨by omega, HM0.out.2⟩
  clear HM0
  go_wp2_with fail
  refine (palong_any _ A _ c).mono ?_
  rintro e w2 ⟨rfl, hc⟩
  rw [decide_eq_false hbig]
  clear hbig hbig2
  replace C := Lib.hid (C.out.trans hc)
  replace HA := Lib.hid (HA.out.chg hc (by simp))
  replace HB := Lib.hid (HB.out.chg hc (by simp))
  replace B0 := Lib.hid (hc.at_ B0.out (by simp))
  replace HO := Lib.hid (fun a ha => Nat.lt_of_lt_of_le (HO.out a ha) hc.size)
  clear hc
  go_wp2_with fail
  refine (pabytes_any _ A _ c xs HA.out (by have := HS.out; omega)).mono ?_
  rintro e w3 ⟨A3, c3, rfl, hO, hN, hc⟩
  replace C := Lib.hid (C.out.trans hc)
  replace HA := Lib.hid (HA.out.chg hc (by simp))
  replace HB := Lib.hid (HB.out.chg hc (by simp))
  replace B0 := Lib.hid (hc.at_ B0.out (by simp))
  replace HO := Lib.hid (fun a ha => Nat.lt_of_lt_of_le (HO.out a ha) hc.size)
  have F3 := Lib.hid hO
  clear hO hN hc
  rcases chk_two xs with e1 | e1
  rotate_left
  · skip
    rw [e1]
    go_wp2_with fail
    refine (pacheck_any _ A _ c xs HA.out (by have := HS.out; omega)).mono ?_
    rintro e w4 ⟨rfl, hc⟩
    rw [e1]
    replace C := Lib.hid (C.out.trans hc)
    replace HA := Lib.hid (HA.out.chg hc (by simp))
    replace HB := Lib.hid (HB.out.chg hc (by simp))
    replace B0 := Lib.hid (hc.at_ B0.out (by simp))
    replace HO := Lib.hid (fun a ha => Nat.lt_of_lt_of_le (HO.out a ha) hc.size)
    replace F3 := Lib.hid (F3.out.chg hc (by simp))
    clear hc e1 F3
    go_wp2_with fail
    refine (paread_any _ B _ d ys HB.out (by have := HM.out; omega) HM.out.2.1 HM.out.2.2).mono ?_
    rintro e w30 ⟨A9, c9, rfl, hO, hN, hc⟩
    replace C := Lib.hid (C.out.trans hc)
    replace HB := Lib.hid (HB.out.chg hc (by simp))
    have F9 := Lib.hid hO
    clear hO hN hc
    obtain ⟨w31, hw, cn, bn⟩ := news1 w30 (.cells #[.int .i64 (readS ys).2.1, .int .i64 (readS ys).2.2] 47)
    have W31 := Lib.hid hw
    replace C := Lib.hid (C.out.trans cn)
    replace HB := Lib.hid (HB.out.chg cn (by simp))
    replace F9 := Lib.hid (F9.out.chg cn (by simp))
    have z0 := cell_of bn 0
    have z1 := cell_of bn 1
    simp only [List.getElem?_toArray, List.getElem?_cons_succ, List.getElem?_cons_zero] at z0 z1
    clear hw cn bn
    by_cases hr : (readS ys).2.1 = 0
    · have RB := Lib.hid (bytes_back hr)
      have RL : Hid ((readS ys).1.length ≤ 3000) := Lib.hid (by have := readS_bytes ys; have := HM.out.1; omega)
      rw [hr] at z0 W31
      rw [hr]
      generalize (readS ys).1 = zs at *
      generalize (readS ys).2.2 = at_ at *
      clear hr
      go_upto_region 18 with fail
      rw [← W31.out]
      generalize w30.heap.size = g9 at *
      go_wp2_with fail
      clear z0 z1
      refine (pabytes_any _ A9 _ c9 zs F9.out.reads (by have := RL.out; omega)).mono ?_
      rintro e w32 ⟨A10, c10, rfl, hO, hN, hc⟩
      rw [RB.out.1] at hO ⊢
      rw [RB.out.2]
      replace C := Lib.hid (C.out.trans hc)
      replace HB := Lib.hid (HB.out.chg hc (by simp))
      replace F9 := Lib.hid (F9.out.chg hc (by simp))
      have F10 := Lib.hid hO
      clear hO hN hc
      go_wp2_with fail
      refine (same_yes _ A10 B _ _ c10 d ys ys F10.out.reads HB.out rfl).mono ?_
      rintro e w33 ⟨rfl, rfl⟩
      go_wp2_with fail
      refine (pacheck_any _ A9 _ c9 zs F9.out.reads (by have := RL.out; omega)).mono ?_
      rintro e w34 ⟨rfl, hc⟩
      rw [RB.out.2]
      replace C := Lib.hid (C.out.trans hc)
      clear hc
      go_wp2
      go_ret
      exact ⟨rfl, C.out⟩
    · have RB := Lib.hid (read_odd hr)
      have nz : ((readS ys).2.1 == 0) = false := beq_eq_false_iff_ne.2 hr
      have nz2 : ((readS ys).2.1 != 0) = true := bne_iff_ne.2 hr
      obtain ⟨hz, hlo, hhi⟩ := RB.out
      rw [hz] at F9 ⊢
      generalize (readS ys).2.1 = er at *
      generalize (readS ys).2.2 = at_ at *
      clear hr RB hz
      go_upto_region 18 with fail
      rw [← W31.out]
      generalize w30.heap.size = g9 at *
      go_wp2
      go_ret
      exact ⟨(by first | rfl | simp), C.out⟩
  rw [e1]
  go_wp2_with fail
  refine (pacheck_any _ A _ c xs HA.out (by have := HS.out; omega)).mono ?_
  rintro e w4 ⟨rfl, hc⟩
  rw [e1]
  replace C := Lib.hid (C.out.trans hc)
  replace HA := Lib.hid (HA.out.chg hc (by simp))
  replace HB := Lib.hid (HB.out.chg hc (by simp))
  replace B0 := Lib.hid (hc.at_ B0.out (by simp))
  replace HO := Lib.hid (fun a ha => Nat.lt_of_lt_of_le (HO.out a ha) hc.size)
  replace F3 := Lib.hid (F3.out.chg hc (by simp))
  clear hc
  have RB := Lib.hid (read_back e1)
  have BL : Hid ((bytesO xs).length ≤ 3000) := Lib.hid (by
    have := HS.out
    unfold bytesO
    rw [if_pos e1]
    show (UInt8.ofNat (xs.length / 256) :: UInt8.ofNat xs.length :: xs.flatMap spanB).length ≤ 3000
    rw [List.length_cons, List.length_cons, flat_len]
    omega)
  generalize bytesO xs = bs at *
  go_wp2_with fail
  refine (paread_any _ A3 _ c3 bs F3.out.reads (by have := BL.out; omega) F3.out.cap.1 (by have := F3.out.cap.2; unfold maxLen at this; omega)).mono ?_
  rintro e w5 ⟨A5, c5, rfl, hO, hN, hc⟩
  rw [RB.out] at hO ⊢
  replace C := Lib.hid (C.out.trans hc)
  replace HA := Lib.hid (HA.out.chg hc (by simp))
  replace HB := Lib.hid (HB.out.chg hc (by simp))
  replace B0 := Lib.hid (hc.at_ B0.out (by simp))
  replace HO := Lib.hid (fun a ha => Nat.lt_of_lt_of_le (HO.out a ha) hc.size)
  replace F3 := Lib.hid (F3.out.chg hc (by simp))
  have F5 := Lib.hid hO
  clear hO hN hc RB BL F3
  dsimp only at F5 ⊢
  obtain ⟨w6, hw, cn, bn⟩ := news1 w5 (.cells #[.int .i64 0, .int .i64 0] 47)
  have W6 := Lib.hid hw
  have z0 := cell_of bn 0
  have z1 := cell_of bn 1
  simp only [List.getElem?_toArray, List.getElem?_cons_succ, List.getElem?_cons_zero] at z0 z1
  clear hw bn
  replace C := Lib.hid (C.out.trans cn)
  replace HA := Lib.hid (HA.out.chg cn (by simp))
  replace HB := Lib.hid (HB.out.chg cn (by simp))
  replace B0 := Lib.hid (cn.at_ B0.out (by simp))
  replace HO := Lib.hid (fun a ha => Nat.lt_of_lt_of_le (HO.out a ha) cn.size)
  replace F5 := Lib.hid (F5.out.chg cn (by simp))
  clear cn
  go_upto_region 9 with fail
  rw [← W6.out]
  generalize w5.heap.size = g5 at *
  go_wp2_with fail
  refine (samespan_any _ A5 A _ _ c5 c xs xs F5.out.reads HA.out (by have := HS.out; omega) (by have := HS.out; omega)).mono ?_
  rintro e w7 ⟨rfl, hc⟩
  rw [show (xs == xs) = true by simp]
  replace C := Lib.hid (C.out.trans hc)
  replace HA := Lib.hid (HA.out.chg hc (by simp))
  replace HB := Lib.hid (HB.out.chg hc (by simp))
  replace B0 := Lib.hid (hc.at_ B0.out (by simp))
  replace HO := Lib.hid (fun a ha => Nat.lt_of_lt_of_le (HO.out a ha) hc.size)
  replace F5 := Lib.hid (F5.out.chg hc (by simp))
  clear hc z0 z1 F5 W6
  obtain ⟨w8, hw, cn, bn⟩ := news1 w7 (.cells #[.int .i64 n, .int .i64 s] 37)
  have W8 := Lib.hid hw
  have RD : Hid (RdK dotTy w8 (some ⟨w7.heap.size, 0, none⟩) 1 [(n, s)]) := Lib.hid (rd_oneD (x := (n, s)) bn)
  clear hw bn
  have y0 := cell_of B0.out 0
  have y1 := cell_of B0.out 1
  simp only [List.getElem?_toArray, List.getElem?_cons_succ, List.getElem?_cons_zero] at y0 y1
  replace C := Lib.hid (C.out.trans cn)
  replace HA := Lib.hid (HA.out.chg cn (by simp))
  replace HB := Lib.hid (HB.out.chg cn (by simp))
  replace B0 := Lib.hid (cn.at_ B0.out (by simp))
  replace HO := Lib.hid (fun a ha => Nat.lt_of_lt_of_le (HO.out a ha) cn.size)
  clear cn
  go_wp2_with fail
  rw [← W8.out]
  generalize w7.heap.size = g7 at *
  clear y0 y1
  refine (paof_any _ (some ⟨g7, 0, none⟩) 1 [(n, s)] RD.out (by simp)).mono ?_
  rintro e w9 ⟨A9, c9, rfl, hO, hN, hc⟩
  have F9 := Lib.hid hO
  have N9 := Lib.hid F9.out.lt_
  clear hO hN
  replace C := Lib.hid (C.out.trans hc)
  replace HA := Lib.hid (HA.out.chg hc (by simp))
  replace HB := Lib.hid (HB.out.chg hc (by simp))
  replace B0 := Lib.hid (hc.at_ B0.out (by simp))
  replace HO := Lib.hid (fun a ha => Nat.lt_of_lt_of_le (HO.out a ha) hc.size)
  clear hc RD W8
  have y0 := cell_of B0.out 0
  have y1 := cell_of B0.out 1
  simp only [List.getElem?_toArray, List.getElem?_cons_succ, List.getElem?_cons_zero] at y0 y1
  go_wp2_with fail
  refine (add_any _ A c xs n s HA.out HC.out HO.out (by have := HS.out; omega)).mono ?_
  rintro e w10 ⟨A10, c10, rfl, hO, hN, hc⟩
  clear y0 y1
  replace C := Lib.hid (C.out.trans hc)
  replace HA := Lib.hid (HA.out.chg hc (by simp))
  replace HB := Lib.hid (HB.out.chg hc (by simp))
  replace B0 := Lib.hid (hc.at_ B0.out (by simp))
  replace HO := Lib.hid (fun a ha => Nat.lt_of_lt_of_le (HO.out a ha) hc.size)
  replace F9 := Lib.hid (F9.out.chg hc (by simp))
  replace N9 := Lib.hid (fun a ha => Nat.lt_of_lt_of_le (N9.out a ha) hc.size)
  have F10 := Lib.hid hO
  clear hO hN hc
  by_cases hf : FineQ n s
  rotate_left
  · skip
    have e2 : (ofE [(n, s)]).1 = 2 := by unfold ofE fineL; simp [hf]
    rw [e2]
    clear e2 hf F9 N9 F10 e1
    go_wp2_with fail
    refine (paread_any _ B _ d ys HB.out (by have := HM.out; omega) HM.out.2.1 HM.out.2.2).mono ?_
    rintro e w30 ⟨A9, c9, rfl, hO, hN, hc⟩
    replace C := Lib.hid (C.out.trans hc)
    replace HB := Lib.hid (HB.out.chg hc (by simp))
    have F9 := Lib.hid hO
    clear hO hN hc
    obtain ⟨w31, hw, cn, bn⟩ := news1 w30 (.cells #[.int .i64 (readS ys).2.1, .int .i64 (readS ys).2.2] 47)
    have W31 := Lib.hid hw
    replace C := Lib.hid (C.out.trans cn)
    replace HB := Lib.hid (HB.out.chg cn (by simp))
    replace F9 := Lib.hid (F9.out.chg cn (by simp))
    have z0 := cell_of bn 0
    have z1 := cell_of bn 1
    simp only [List.getElem?_toArray, List.getElem?_cons_succ, List.getElem?_cons_zero] at z0 z1
    clear hw cn bn
    by_cases hr : (readS ys).2.1 = 0
    · have RB := Lib.hid (bytes_back hr)
      have RL : Hid ((readS ys).1.length ≤ 3000) := Lib.hid (by have := readS_bytes ys; have := HM.out.1; omega)
      rw [hr] at z0 W31
      rw [hr]
      generalize (readS ys).1 = zs at *
      generalize (readS ys).2.2 = at_ at *
      clear hr
      go_upto_region 18 with fail
      rw [← W31.out]
      generalize w30.heap.size = g9 at *
      go_wp2_with fail
      clear z0 z1
      refine (pabytes_any _ A9 _ c9 zs F9.out.reads (by have := RL.out; omega)).mono ?_
      rintro e w32 ⟨A10, c10, rfl, hO, hN, hc⟩
      rw [RB.out.1] at hO ⊢
      rw [RB.out.2]
      replace C := Lib.hid (C.out.trans hc)
      replace HB := Lib.hid (HB.out.chg hc (by simp))
      replace F9 := Lib.hid (F9.out.chg hc (by simp))
      have F10 := Lib.hid hO
      clear hO hN hc
      go_wp2_with fail
      refine (same_yes _ A10 B _ _ c10 d ys ys F10.out.reads HB.out rfl).mono ?_
      rintro e w33 ⟨rfl, rfl⟩
      go_wp2_with fail
      refine (pacheck_any _ A9 _ c9 zs F9.out.reads (by have := RL.out; omega)).mono ?_
      rintro e w34 ⟨rfl, hc⟩
      rw [RB.out.2]
      replace C := Lib.hid (C.out.trans hc)
      clear hc
      go_wp2
      go_ret
      exact ⟨rfl, C.out⟩
    · have RB := Lib.hid (read_odd hr)
      have nz : ((readS ys).2.1 == 0) = false := beq_eq_false_iff_ne.2 hr
      have nz2 : ((readS ys).2.1 != 0) = true := bne_iff_ne.2 hr
      obtain ⟨hz, hlo, hhi⟩ := RB.out
      rw [hz] at F9 ⊢
      generalize (readS ys).2.1 = er at *
      generalize (readS ys).2.2 = at_ at *
      clear hr RB hz
      go_upto_region 18 with fail
      rw [← W31.out]
      generalize w30.heap.size = g9 at *
      go_wp2
      go_ret
      exact ⟨(by first | rfl | simp), C.out⟩
  have e2 : ofE [(n, s)] = (0, [(n, s, s)]) := by
    have q : fineL [(n, s)] = true := by unfold fineL; simp [hf]
    rw [(of_ok q (by simp)).1]
    rfl
  rw [e2] at F9 ⊢
  dsimp only at F9 ⊢
  have e3 : chkS [(n, s, s)] = 0 := by rw [chk_dot, if_pos hf]
  obtain ⟨j1, j2, j3, j4⟩ := join_ok e1 e3 (by have := HS.out; simp; omega)
  have HJ : Hid (hasE (tidyS (xs ++ [(n, s, s)])) n s = true) := Lib.hid (by rw [has_iff j2]; exact decide_eq_true ((j4 n s).2 (.inr (mem_one.2 ⟨rfl, Int.le_refl _, Int.le_refl _⟩))))
  have JL : Hid ((tidyS (xs ++ [(n, s, s)])).length ≤ 4000) := Lib.hid (by have := HS.out; simp at j3; omega)
  have J1 := Lib.hid j1
  rw [j1] at F10 ⊢
  dsimp only at F10 ⊢
  clear j1 j2 j3 j4 e2 e3 hf e1
  go_wp2_with fail
  refine (join_any _ A c xs A9 c9 [(n, s, s)] HA.out HC.out HO.out F9.out.reads F9.out.cap N9.out (by have := HS.out; omega) (by simp)).mono ?_
  rintro e w11 ⟨A11, c11, rfl, hO, hN, hc⟩
  rw [J1.out] at hO ⊢
  dsimp only at hO ⊢
  replace C := Lib.hid (C.out.trans hc)
  replace HA := Lib.hid (HA.out.chg hc (by simp))
  replace HB := Lib.hid (HB.out.chg hc (by simp))
  replace B0 := Lib.hid (hc.at_ B0.out (by simp))
  replace HO := Lib.hid (fun a ha => Nat.lt_of_lt_of_le (HO.out a ha) hc.size)
  replace F9 := Lib.hid (F9.out.chg hc (by simp))
  replace N9 := Lib.hid (fun a ha => Nat.lt_of_lt_of_le (N9.out a ha) hc.size)
  replace F10 := Lib.hid (F10.out.chg hc (by simp))
  have F11 := Lib.hid hO
  clear hO hN hc F9 N9 J1
  generalize tidyS (xs ++ [(n, s, s)]) = J at *
  go_wp2_with fail
  refine (samespan_any _ A11 A10 _ _ c11 c10 J J F11.out.reads F10.out.reads (by have := JL.out; omega) (by have := JL.out; omega)).mono ?_
  rintro e w12 ⟨rfl, hc⟩
  rw [show (J == J) = true by simp]
  replace C := Lib.hid (C.out.trans hc)
  replace HA := Lib.hid (HA.out.chg hc (by simp))
  replace HB := Lib.hid (HB.out.chg hc (by simp))
  replace B0 := Lib.hid (hc.at_ B0.out (by simp))
  replace HO := Lib.hid (fun a ha => Nat.lt_of_lt_of_le (HO.out a ha) hc.size)
  replace F10 := Lib.hid (F10.out.chg hc (by simp))
  replace F11 := Lib.hid (F11.out.chg hc (by simp))
  clear hc F11
  have y0 := cell_of B0.out 0
  have y1 := cell_of B0.out 1
  simp only [List.getElem?_toArray, List.getElem?_cons_succ, List.getElem?_cons_zero] at y0 y1
  go_wp2_with fail
  refine (has_any _ A10 c10 J n s F10.out.reads (by have := JL.out; omega)).mono ?_
  rintro e w13 ⟨rfl, hc⟩
  rw [HJ.out]
  clear y0 y1
  replace C := Lib.hid (C.out.trans hc)
  replace HA := Lib.hid (HA.out.chg hc (by simp))
  replace HB := Lib.hid (HB.out.chg hc (by simp))
  replace B0 := Lib.hid (hc.at_ B0.out (by simp))
  replace HO := Lib.hid (fun a ha => Nat.lt_of_lt_of_le (HO.out a ha) hc.size)
  replace F10 := Lib.hid (F10.out.chg hc (by simp))
  clear hc F10 HJ JL
  go_wp2_with fail
  refine (paread_any _ B _ d ys HB.out (by have := HM.out; omega) HM.out.2.1 HM.out.2.2).mono ?_
  rintro e w30 ⟨A9, c9, rfl, hO, hN, hc⟩
  replace C := Lib.hid (C.out.trans hc)
  replace HB := Lib.hid (HB.out.chg hc (by simp))
  have F9 := Lib.hid hO
  clear hO hN hc
  obtain ⟨w31, hw, cn, bn⟩ := news1 w30 (.cells #[.int .i64 (readS ys).2.1, .int .i64 (readS ys).2.2] 47)
  have W31 := Lib.hid hw
  replace C := Lib.hid (C.out.trans cn)
  replace HB := Lib.hid (HB.out.chg cn (by simp))
  replace F9 := Lib.hid (F9.out.chg cn (by simp))
  have z0 := cell_of bn 0
  have z1 := cell_of bn 1
  simp only [List.getElem?_toArray, List.getElem?_cons_succ, List.getElem?_cons_zero] at z0 z1
  clear hw cn bn
  by_cases hr : (readS ys).2.1 = 0
  · have RB := Lib.hid (bytes_back hr)
    have RL : Hid ((readS ys).1.length ≤ 3000) := Lib.hid (by have := readS_bytes ys; have := HM.out.1; omega)
    rw [hr] at z0 W31
    rw [hr]
    generalize (readS ys).1 = zs at *
    generalize (readS ys).2.2 = at_ at *
    clear hr
    go_upto_region 18 with fail
    rw [← W31.out]
    generalize w30.heap.size = g9 at *
    go_wp2_with fail
    clear z0 z1
    refine (pabytes_any _ A9 _ c9 zs F9.out.reads (by have := RL.out; omega)).mono ?_
    rintro e w32 ⟨A10, c10, rfl, hO, hN, hc⟩
    rw [RB.out.1] at hO ⊢
    rw [RB.out.2]
    replace C := Lib.hid (C.out.trans hc)
    replace HB := Lib.hid (HB.out.chg hc (by simp))
    replace F9 := Lib.hid (F9.out.chg hc (by simp))
    have F10 := Lib.hid hO
    clear hO hN hc
    go_wp2_with fail
    refine (same_yes _ A10 B _ _ c10 d ys ys F10.out.reads HB.out rfl).mono ?_
    rintro e w33 ⟨rfl, rfl⟩
    go_wp2_with fail
    refine (pacheck_any _ A9 _ c9 zs F9.out.reads (by have := RL.out; omega)).mono ?_
    rintro e w34 ⟨rfl, hc⟩
    rw [RB.out.2]
    replace C := Lib.hid (C.out.trans hc)
    clear hc
    go_wp2
    go_ret
    exact ⟨rfl, C.out⟩
  · have RB := Lib.hid (read_odd hr)
    have nz : ((readS ys).2.1 == 0) = false := beq_eq_false_iff_ne.2 hr
    have nz2 : ((readS ys).2.1 != 0) = true := bne_iff_ne.2 hr
    obtain ⟨hz, hlo, hhi⟩ := RB.out
    rw [hz] at F9 ⊢
    generalize (readS ys).2.1 = er at *
    generalize (readS ys).2.2 = at_ at *
    clear hr RB hz
    go_upto_region 18 with fail
    rw [← W31.out]
    generalize w30.heap.size = g9 at *
    go_wp2
    go_ret
    exact ⟨(by first | rfl | simp), C.out⟩
end
section
open Go.RowKit Go.WideShapes Go.ChangeShapes Go.Deep
section
variable {H : Type} {enc : TypeId × Value → H} {P : Program} {w : World} {base : Nat} {spare : Nat → Bool} {held : Bool}

theorem weights_all_mem {e : TypeId} : ∀ {l : List (DataW H)} {d : DataW H}, d ∈ l → ∀ n ∈ d.weights P e, n ∈ DataW.weightsAll P e l
  | x :: l, d, hd, n, hn => by
    simp only [DataW.weightsAll, List.mem_append]
    rcases List.mem_cons.1 hd with rfl | h
    · exact .inl hn
    · exact .inr (weights_all_mem h n hn)
theorem weights_slice {t e : TypeId} (ht : P.underlying t = some (.slice e)) {xs ys : List (DataW H)} (hz : ∀ k ∈ (DataW.slice xs ys).weights P t, k ≤ reachBytes) :
    (xs.length + ys.length) * P.bytesOf e ≤ reachBytes ∧ ∀ d ∈ xs, ∀ k ∈ d.weights P e, k ≤ reachBytes := by
  simp only [DataW.weights, ht, List.mem_cons, List.mem_append] at hz
  exact ⟨hz _ (.inl rfl), fun d hd k hk => hz k (.inr (.inl (weights_all_mem hd k hk)))⟩
/-- A list of what is there for every number. -/
theorem list_of {α : Type} {Q : Nat → α → Prop} : ∀ (n : Nat), (∀ i, i < n → ∃ a, Q i a) → ∃ l : List α, l.length = n ∧ ∀ j a, l[j]? = some a → Q j a
  | 0, _ => ⟨[], rfl, by simp⟩
  | n + 1, h => by
    obtain ⟨l, h1, h2⟩ := list_of n (fun i hi => h i (by omega))
    obtain ⟨a, ha⟩ := h n (by omega)
    refine ⟨l ++ [a], by simp [h1], fun j b hj => ?_⟩
    rw [List.getElem?_append] at hj
    split at hj
    · exact h2 j b hj
    · rename_i hn
      have : j = n := by
        have := (List.getElem?_eq_some_iff.1 hj).1
        simp at this
        omega
      subst this
      rw [h1] at hj
      simp at hj
      subst hj
      exact ha
end
section
variable {H : Type} {enc : TypeId × Value → H} {w : World} {base : Nat} {spare : Nat → Bool} {held : Bool}

theorem open_bytes {n : Nat} {cs : List Value} {y : DataW H × List MemPlace} (h : DataW.trod enc Try.prog w base spare held n 43 cs = some y) (hz : ∀ k ∈ y.1.weights Try.prog 43, k ≤ reachBytes) :
    ∃ A m d ys, cs = [.slice A m d] ∧ Bs w A m ys ∧ m ≤ 140737488351232 ∧ m ≤ d ∧ d ≤ 9223372036854775807 := by
  rcases open_ints Try.underlying43 Try.underlying5 (by kernel_rfl) h with ⟨rfl, _⟩ | ⟨x, l, c, zs, rfl, _, hl, hm, hzl, rfl, hcell, hwz⟩
  · exact ⟨none, 0, 0, [], rfl, Bs.nil _ _, by decide, by decide, by decide⟩
  · have hlen : l ≤ zs.length := by rw [hzl]; split <;> omega
    have hw := (weights_slice Try.underlying43 hz).1
    rw [show Try.prog.bytesOf 5 = 1 by kernel_rfl] at hw
    refine ⟨some x, l, c, (zs.take l).map (fun z => UInt8.ofNat z.toNat), rfl, ⟨by simp; omega, fun j u hj => ⟨x, rfl, ?_⟩⟩, ?_, hl, by unfold maxLen at hm; omega⟩
    · have hjl := (List.getElem?_eq_some_iff.1 hj).1
      rw [List.length_map, List.length_take] at hjl
      have h1 : j < l := by omega
      have h2 : j < zs.length := by omega
      rw [hcell j h2]
      have hwz' := bounds_u8 (hwz (zs.getD j 0) (by simp [List.getD, h2]))
      simp only [List.getElem?_map, List.getElem?_take, if_pos h1, Option.map_eq_some_iff] at hj
      obtain ⟨z, h3, rfl⟩ := hj
      have e : zs.getD j 0 = z := by simp [List.getD, h3]
      rw [e] at hwz' ⊢
      unfold bv
      congr 2
      simp
      omega
    · simp [lits, reachBytes] at hw
      omega

set_option maxRecDepth 100000 in
/-- A dot's two cells. -/
theorem open_dot {n : Nat} {cs : List Value} {y : DataW H × List MemPlace} (h : DataW.trod enc Try.prog w base spare held n 37 cs = some y) :
    ∃ (a b : Int), cs = [.int .i64 a, .int .i64 b] ∧ -9223372036854775808 ≤ a ∧ a ≤ 9223372036854775807 ∧ -9223372036854775808 ≤ b ∧ b ≤ 9223372036854775807 := by
  obtain ⟨xs, k, rfl, rfl, hl, hx, hf⟩ := DataW.trod_struct Try.underlying37 h
  rw [show Try.prog.cellsOf 37 = 2 by kernel_rfl] at hl
  have g0 := hf 0 _ rfl
  have g1 := hf 1 _ rfl
  change DataW.trod _ _ _ _ _ _ _ 3 ((cs.drop 0).take (Try.prog.cellsOf 3)) = _ at g0
  change DataW.trod _ _ _ _ _ _ _ 3 ((cs.drop 1).take (Try.prog.cellsOf 3)) = _ at g1
  rw [show Try.prog.cellsOf 3 = 1 by kernel_rfl] at g0 g1
  match cs, hl with
  | [v0, v1], _ =>
    match xs, hx with
    | [x0, x1], _ =>
      obtain ⟨z0, e0, _, b0⟩ := DataW.trod_int Try.underlying3 g0
      obtain ⟨z1, e1, _, b1⟩ := DataW.trod_int Try.underlying3 g1
      have c0 := bounds_i64 b0
      have c1 := bounds_i64 b1
      simp only [List.drop_succ_cons, List.drop_zero, List.take_succ_cons, List.take_zero, List.cons.injEq, and_true] at e0 e1
      subst e0 e1
      exact ⟨z0, z1, rfl, c0.1, c0.2, c1.1, c1.2⟩
end
end
section
open Go.RowKit Go.WideShapes Go.ChangeShapes Go.Deep
set_option linter.unusedSimpArgs false
section
variable {H : Type} {enc : TypeId × Value → H} {w : World} {base : Nat} {spare : Nat → Bool} {held : Bool}
set_option maxRecDepth 100000 in
/-- A span's three cells. -/
theorem open_span {n : Nat} {cs : List Value} {y : DataW H × List MemPlace} (h : DataW.trod enc Try.prog w base spare held n 62 cs = some y) :
    ∃ (a b c : Int), cs = [.int .i64 a, .int .i64 b, .int .i64 c] := by
  obtain ⟨xs, k, rfl, rfl, hl, hx, hf⟩ := DataW.trod_struct Try.underlying62 h
  rw [show Try.prog.cellsOf 62 = 3 by kernel_rfl] at hl
  have g0 := hf 0 _ rfl
  have g1 := hf 1 _ rfl
  have g2 := hf 2 _ rfl
  change DataW.trod _ _ _ _ _ _ _ 3 ((cs.drop 0).take (Try.prog.cellsOf 3)) = _ at g0
  change DataW.trod _ _ _ _ _ _ _ 3 ((cs.drop 1).take (Try.prog.cellsOf 3)) = _ at g1
  change DataW.trod _ _ _ _ _ _ _ 3 ((cs.drop 2).take (Try.prog.cellsOf 3)) = _ at g2
  rw [show Try.prog.cellsOf 3 = 1 by kernel_rfl] at g0 g1 g2
  match cs, hl with
  | [v0, v1, v2], _ =>
    match xs, hx with
    | [x0, x1, x2], _ =>
      obtain ⟨z0, e0, _, _⟩ := DataW.trod_int Try.underlying3 g0
      obtain ⟨z1, e1, _, _⟩ := DataW.trod_int Try.underlying3 g1
      obtain ⟨z2, e2, _, _⟩ := DataW.trod_int Try.underlying3 g2
      simp only [List.drop_succ_cons, List.drop_zero, List.take_succ_cons, List.take_zero, List.cons.injEq, and_true] at e0 e1 e2
      subst e0 e1 e2
      exact ⟨z0, z1, z2, rfl⟩
theorem open_spans {n : Nat} {cs : List Value} {y : DataW H × List MemPlace} (h : DataW.trod enc Try.prog w base spare held n 22 cs = some y) (hz : ∀ k ∈ y.1.weights Try.prog 22, k ≤ reachBytes) :
    ∃ A m d zs, cs = [.slice A m d] ∧ RdK spanTy w A m zs ∧ m * 24 ≤ 140737488351232 ∧ m ≤ d := by
  rcases open_slice Try.underlying22 h with ⟨rfl, _⟩ | ⟨a, len, cap, m, k, D, Pl, rfl, _, hl, hm, hmm, rfl, hi⟩
  · exact ⟨none, 0, 0, [], rfl, RdK.nil _ _, by decide, by decide⟩
  · have hlm : len ≤ m := by rw [hmm]; split <;> omega
    obtain ⟨hw, _⟩ := weights_slice Try.underlying22 hz
    rw [show Try.prog.bytesOf 62 = 24 by kernel_rfl] at hw
    simp [reachBytes] at hw
    have hC : Try.prog.cellsOf 62 = 3 := by kernel_rfl
    obtain ⟨l, hll, hat⟩ := list_of (Q := fun i (x : Int × Int × Int) => w.cell? (a.add (i * 3)) = some (.int .i64 x.1) ∧ w.cell? (a.add (i * 3 + 1)) = some (.int .i64 x.2.1) ∧ w.cell? (a.add (i * 3 + 2)) = some (.int .i64 x.2.2)) len (fun i hilt => by
      obtain ⟨cs', hc, ht⟩ := hi i (by omega)
      rw [hC] at hc
      obtain ⟨_, hcl, hat⟩ := World.cells?_some hc
      obtain ⟨p, q, r, rfl⟩ := open_span ht
      have g0 := hat 0 (by omega)
      have g1 := hat 1 (by omega)
      have g2 := hat 2 (by omega)
      rw [add_add] at g0 g1 g2
      exact ⟨(p, q, r), g0, g1, g2⟩)
    refine ⟨some a, len, cap, l, rfl, ⟨hll, fun j v hj => ⟨a, rfl, ?_⟩⟩, by omega, hl⟩
    have hj2 := (List.getElem?_eq_some_iff.1 hj).1
    rw [spanTy.flat_len] at hj2
    have hk : spanTy.k = 3 := rfl
    rw [hk] at hj2
    have hq : j / 3 < l.length := by omega
    have e := spanTy.flat_at l (j / 3) (j % 3) _ (List.getElem?_eq_getElem hq) (Nat.mod_lt _ (by decide))
    rw [hk, Nat.div_add_mod', hj] at e
    obtain ⟨g0, g1, g2⟩ := hat (j / 3) _ (List.getElem?_eq_getElem hq)
    rcases (show j % 3 = 0 ∨ j % 3 = 1 ∨ j % 3 = 2 by omega) with h0 | h0 | h0
    · rw [h0] at e
      rw [show j / 3 * 3 = j by omega] at g0
      rw [g0]
      exact e.symm
    · rw [h0] at e
      rw [show j / 3 * 3 + 1 = j by omega] at g1
      rw [g1]
      exact e.symm
    · rw [h0] at e
      rw [show j / 3 * 3 + 2 = j by omega] at g2
      rw [g2]
      exact e.symm
end
end
section
open Go.RowKit Go.WideShapes
set_option linter.unusedSimpArgs false
theorem okWide_has {P : Program} {w : World} {r : Reach} {base : Nat} {t e : TypeId} {A : Option Addr} {n c : Nat} (ht : P.underlying t = some (.slice e)) (h : Value.okWide P w r base t (.slice A n c)) : (n ≤ c ∧ c ≤ maxLen) ∧ ∀ a, A = some a → a.block < w.heap.size := by
  simp only [Value.okWide, ht, Cell.okWide, Cell.ok] at h
  rcases A with _ | a
  · match n, c, h with
    | 0, 0, _ => exact ⟨⟨Nat.le_refl _, Nat.zero_le _⟩, fun a ha => by cases ha⟩
  · obtain ⟨h1, h2, h3⟩ := h
    refine ⟨⟨h1, ?_⟩, fun b hb => ?_⟩
    · have : IntKind.i64.max = 9223372036854775807 := by decide
      rw [this] at h2
      unfold maxLen
      omega
    · cases hb
      obtain ⟨_, _, row, cells, hs, _⟩ := h3
      unfold World.shape? at hs
      cases hh : w.heap[a.block]? with
      | none => rw [hh] at hs; cases hs
      | some o => exact (Array.getElem?_eq_some_iff.1 hh).1
end
section
open Go.RowKit Go.WideShapes Go.ChangeShapes Go.Deep
set_option linter.unusedSimpArgs false
section
variable {H : Type} {enc : TypeId × Value → H} {w : World} {base : Nat} {spare : Nat → Bool} {held : Bool}
end
end
end Go.Proofs.Ytgafkphhnlifiaa
