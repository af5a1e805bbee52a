/- PastHas. -/
import Derived.Test.YtgafkphhnlifiaaZphf
import Derived.Test.YtgafkphhnlifiaaZphg
import Derived.Test.YtgafkphhnlifiaaZphj
import Derived.Test.YtgafkphhnlifiaaZpho
import Derived.Deep.RegionHeld3
namespace Go.Proofs.Ytgafkphhnlifiaa
section
open Go.RowKit Go.Lib
set_option linter.unusedSimpArgs false
set_option linter.unusedVariables false


set_option maxHeartbeats 16000000 in
set_option maxRecDepth 100000 in
theorem phaslaw_yes (w : World) (A : Option Addr) (m c : Nat) (xs : List Sp) (h : RdK spanTy w A m xs) (hc : m ≤ c ∧ c ≤ maxLen) (ho : ∀ a, A = some a → a.block < w.heap.size) (B : Option Addr) (m' d : Nat) (ys : List Sp) (h' : RdK spanTy w B m' ys) (hc' : m' ≤ d ∧ d ≤ maxLen) (ho' : ∀ a, B = some a → a.block < w.heap.size) (D : Option Addr) (m'' f : Nat) (l : List (Int × Int)) (h'' : RdK dotTy w D m'' l) (n s : Int) :
    Calls Try.prog 5 #[.slice A m c, .slice B m' d, .slice D m'' f, .agg #[.int .i64 n, .int .i64 s]] w fun e w' => e = .returned (.bool true) ∧ Chg [] w w' := by

  have hl := h.len
  subst hl
  have hl := h'.len
  subst hl
  have hl := h''.len
  subst hl
  obtain ⟨w0, hw0, c0', b0⟩ := news1 w (.cells #[.int .i64 n, .int .i64 s] 37)
  have W0 := Lib.hid hw0
  have HA := Lib.hid (h.chg c0' (by simp))
  have HB := Lib.hid (h'.chg c0' (by simp))
  have HD := Lib.hid (h''.chg c0' (by simp))
  have C := Lib.hid c0'
  have B0 := Lib.hid b0
  have HO : Hid (∀ a, A = some a → a.block < w0.heap.size) := Lib.hid (fun a ha => Nat.lt_of_lt_of_le (ho a ha) c0'.size)
  have HO2 : Hid (∀ a, B = some a → a.block < w0.heap.size) := Lib.hid (fun a ha => Nat.lt_of_lt_of_le (ho' a ha) c0'.size)
  have HC := Lib.hid (And.intro hc hc')
  clear hw0 c0' b0 h h' h'' ho ho' hc hc'
  go_enter Try.func5, Try.ntmps5
  go_upto_region 1 with fail
  rw [← W0.out]
  generalize w.heap.size = g0 at *
  go_wp2_with fail
  refine (pastKnown_run _).mono ?_
  rintro e w1 ⟨rfl, hc⟩
  replace C := Lib.hid (C.out.trans hc)
  replace HA := Lib.hid (HA.out.chg hc (by simp))
  replace HB := Lib.hid (HB.out.chg hc (by simp))
  replace HD := Lib.hid (HD.out.chg hc (by simp))
  replace B0 := Lib.hid (hc.at_ B0.out (by simp))
  replace HO : Hid (∀ a, A = some a → a.block < w1.heap.size) := Lib.hid (fun a ha => Nat.lt_of_lt_of_le (HO.out a ha) hc.size)
  replace HO2 : Hid (∀ a, B = some a → a.block < w1.heap.size) := Lib.hid (fun a ha => Nat.lt_of_lt_of_le (HO2.out a ha) hc.size)
  clear hc
  by_cases hbig : 200 < xs.length ∨ 200 < ys.length ∨ 200 < l.length
  · go_wp2_with fail
    refine (along_any _ A B D _ c _ d _ f).mono ?_
    rintro e w1 ⟨rfl, hc⟩
    rw [decide_eq_true hbig]
    replace C := Lib.hid (C.out.trans hc)
    clear hc
    go_wp2
    go_ret
    exact ⟨rfl, C.out⟩
  go_wp2_with fail
  refine (along_any _ A B D _ c _ d _ f).mono ?_
  rintro e w2 ⟨rfl, hc⟩
  rw [decide_eq_false hbig]
  have HS : Hid (xs.length ≤ 200 ∧ ys.length ≤ 200 ∧ l.length ≤ 200) := Lib.hid (by omega)
  replace C := Lib.hid (C.out.trans hc)
  replace HA := Lib.hid (HA.out.chg hc (by simp))
  replace HB := Lib.hid (HB.out.chg hc (by simp))
  replace HD := Lib.hid (HD.out.chg hc (by simp))
  replace B0 := Lib.hid (hc.at_ B0.out (by simp))
  replace HO := Lib.hid (fun a ha => Nat.lt_of_lt_of_le (HO.out a ha) hc.size)
  replace HO2 := Lib.hid (fun a ha => Nat.lt_of_lt_of_le (HO2.out a ha) hc.size)
  clear hc hbig
  go_wp2_with fail
  refine (paof_any _ D f l HD.out (by have := HS.out; omega)).mono ?_
  rintro e w3 ⟨A9, c9, rfl, hO, hN, hc⟩
  replace C := Lib.hid (C.out.trans hc)
  replace HA := Lib.hid (HA.out.chg hc (by simp))
  replace HB := Lib.hid (HB.out.chg hc (by simp))
  replace HD := Lib.hid (HD.out.chg hc (by simp))
  replace B0 := Lib.hid (hc.at_ B0.out (by simp))
  replace HO := Lib.hid (fun a ha => Nat.lt_of_lt_of_le (HO.out a ha) hc.size)
  replace HO2 := Lib.hid (fun a ha => Nat.lt_of_lt_of_le (HO2.out a ha) hc.size)
  have F9 := Lib.hid hO
  clear hO hN hc
  rcases hf : fineL l with _ | _
  · skip
    have e2 : (ofE l).1 = 2 := by unfold ofE; rw [hf]; rfl
    rw [e2]
    clear e2 hf F9
    rcases chk_two xs with e1 | e1
    rotate_left
    · skip
      have EW : Hid (withinE xs ys = false) := Lib.hid (by unfold withinE; rw [decide_eq_false (by omega)]; rfl)
      go_wp2_with fail
      refine (pacheck_any _ A _ c xs HA.out (by have := HS.out; omega)).mono ?_
      rintro e w20 ⟨rfl, hc⟩
      rw [e1]
      replace C := Lib.hid (C.out.trans hc)
      replace HA := Lib.hid (HA.out.chg hc (by simp))
      replace HB := Lib.hid (HB.out.chg hc (by simp))
      replace HD := Lib.hid (HD.out.chg hc (by simp))
      replace B0 := Lib.hid (hc.at_ B0.out (by simp))
      replace HO := Lib.hid (fun a ha => Nat.lt_of_lt_of_le (HO.out a ha) hc.size)
      replace HO2 := Lib.hid (fun a ha => Nat.lt_of_lt_of_le (HO2.out a ha) hc.size)
      clear hc
      go_wp2_with fail
      refine (within_any _ A c xs B d ys HA.out HC.out.1 HO.out HB.out HC.out.2 HO2.out (by have := HS.out; omega) (by have := HS.out; omega)).mono ?_
      rintro e w22 ⟨rfl, hc⟩
      rw [EW.out]
      replace C := Lib.hid (C.out.trans hc)
      replace HA := Lib.hid (HA.out.chg hc (by simp))
      replace HB := Lib.hid (HB.out.chg hc (by simp))
      replace HD := Lib.hid (HD.out.chg hc (by simp))
      replace B0 := Lib.hid (hc.at_ B0.out (by simp))
      replace HO := Lib.hid (fun a ha => Nat.lt_of_lt_of_le (HO.out a ha) hc.size)
      replace HO2 := Lib.hid (fun a ha => Nat.lt_of_lt_of_le (HO2.out a ha) hc.size)
      clear hc
      go_wp2
      go_ret
      exact ⟨(by first | rfl | simp), C.out⟩
    rcases chk_two ys with e2 | e2
    rotate_left
    · skip
      have EW : Hid (withinE xs ys = false) := Lib.hid (by unfold withinE; rw [decide_eq_false (by omega)]; rfl)
      go_wp2_with fail
      refine (pacheck_any _ A _ c xs HA.out (by have := HS.out; omega)).mono ?_
      rintro e w20 ⟨rfl, hc⟩
      rw [e1]
      replace C := Lib.hid (C.out.trans hc)
      replace HA := Lib.hid (HA.out.chg hc (by simp))
      replace HB := Lib.hid (HB.out.chg hc (by simp))
      replace HD := Lib.hid (HD.out.chg hc (by simp))
      replace B0 := Lib.hid (hc.at_ B0.out (by simp))
      replace HO := Lib.hid (fun a ha => Nat.lt_of_lt_of_le (HO.out a ha) hc.size)
      replace HO2 := Lib.hid (fun a ha => Nat.lt_of_lt_of_le (HO2.out a ha) hc.size)
      clear hc
      go_wp2_with fail
      refine (pacheck_any _ B _ d ys HB.out (by have := HS.out; omega)).mono ?_
      rintro e w21 ⟨rfl, hc⟩
      rw [e2]
      replace C := Lib.hid (C.out.trans hc)
      replace HA := Lib.hid (HA.out.chg hc (by simp))
      replace HB := Lib.hid (HB.out.chg hc (by simp))
      replace HD := Lib.hid (HD.out.chg hc (by simp))
      replace B0 := Lib.hid (hc.at_ B0.out (by simp))
      replace HO := Lib.hid (fun a ha => Nat.lt_of_lt_of_le (HO.out a ha) hc.size)
      replace HO2 := Lib.hid (fun a ha => Nat.lt_of_lt_of_le (HO2.out a ha) hc.size)
      clear hc
      go_wp2_with fail
      refine (within_any _ A c xs B d ys HA.out HC.out.1 HO.out HB.out HC.out.2 HO2.out (by have := HS.out; omega) (by have := HS.out; omega)).mono ?_
      rintro e w22 ⟨rfl, hc⟩
      rw [EW.out]
      replace C := Lib.hid (C.out.trans hc)
      replace HA := Lib.hid (HA.out.chg hc (by simp))
      replace HB := Lib.hid (HB.out.chg hc (by simp))
      replace HD := Lib.hid (HD.out.chg hc (by simp))
      replace B0 := Lib.hid (hc.at_ B0.out (by simp))
      replace HO := Lib.hid (fun a ha => Nat.lt_of_lt_of_le (HO.out a ha) hc.size)
      replace HO2 := Lib.hid (fun a ha => Nat.lt_of_lt_of_le (HO2.out a ha) hc.size)
      clear hc
      go_wp2
      go_ret
      exact ⟨(by first | rfl | simp), C.out⟩
    obtain ⟨j1, j2, j3, j4⟩ := join_ok e1 e2 (by have := HS.out; omega)
    obtain ⟨m1, m2, m3, m4⟩ := minus_ok e1 e2 (by have := HS.out; omega)
    obtain ⟨k1, k2, k3, k4⟩ := join_ok m2 e2 (by have := HS.out; omega)
    have nj := (wf_of_chk j2).1.1
    have nm := (wf_of_chk m2).1.1
    have nb := (wf_of_chk e2).1.1
    have ek : tidyS (ys.foldl withoutP xs ++ ys) = tidyS (xs ++ ys) := norm_ext (wf_of_chk k2).1.1 nj (fun n s => by
      rw [k4 n s, j4 n s, m4 n s]
      by_cases q : Mem ys n s
      · simp [q]
      · simp [q])
    have J1 := Lib.hid j1
    have M1 := Lib.hid m1
    have JC := Lib.hid j2
    have MC := Lib.hid m2
    have KJ : Hid (joinE (ys.foldl withoutP xs) ys = (0, tidyS (xs ++ ys))) := Lib.hid (by rw [k1, ek])
    have EJ : Hid (hasE (tidyS (xs ++ ys)) n s = (hasE xs n s || hasE ys n s)) := Lib.hid (by
      rw [has_iff j2, has_iff e1, has_iff e2, ← Bool.decide_or]
      exact decide_eq_decide.2 (j4 n s))
    have EM : Hid (hasE (ys.foldl withoutP xs) n s = (hasE xs n s && !hasE ys n s)) := Lib.hid (by
      rw [has_iff m2, has_iff e1, has_iff e2, ← decide_not, ← Bool.decide_and]
      exact decide_eq_decide.2 (m4 n s))
    have WM := Lib.hid (within_len e1 e2)
    have V1 := Lib.hid (within_yes e1 j2 (fun n s q => (j4 n s).2 (.inl q)))
    have V2 := Lib.hid (within_yes e2 j2 (fun n s q => (j4 n s).2 (.inr q)))
    have V3 := Lib.hid (within_yes m2 e1 (fun n s q => ((m4 n s).1 q).1))
    have cwf := fin_of (wf_of_chk e2).1
    obtain ⟨cm, hcm⟩ : ∃ v : Int, cntL (ys.foldl withoutP xs) = v := ⟨_, rfl⟩
    obtain ⟨cb, hcb⟩ : ∃ v : Int, cntL ys = v := ⟨_, rfl⟩
    obtain ⟨cj, hcj⟩ : ∃ v : Int, cntL (tidyS (xs ++ ys)) = v := ⟨_, rfl⟩
    have CM : Hid ((if chkS (ys.foldl withoutP xs) = 0 then cntL (ys.foldl withoutP xs) else 0) = cm) := Lib.hid (by rw [if_pos m2, hcm])
    have CB : Hid ((if chkS ys = 0 then cntL ys else 0) = cb) := Lib.hid (by rw [if_pos e2, hcb])
    have CJ : Hid ((if chkS (tidyS (xs ++ ys)) = 0 then cntL (tidyS (xs ++ ys)) else 0) = cj) := Lib.hid (by rw [if_pos j2, hcj])
    have hsum : cm + cb = cj := by
      rw [← hcm, ← hcb, ← hcj]
      exact cnt_union nm nb nj (fun n s q => ((m4 n s).1 q).2) (fun n s => by
        rw [j4 n s, m4 n s]
        by_cases q : Mem ys n s
        · simp [q]
        · simp [q])
    have bj := cnt_small 4000 _ (fin_of (wf_of_chk j2).1) (by have := HS.out; omega)
    rw [hcj] at bj
    have CW : Hid (IntKind.i64.wrap (cm + cb) = cj) := Lib.hid (by rw [hsum]; exact IntWalk.i64_in _ (by omega))
    have CE : Hid ((cj == cj) = true) := Lib.hid (by simp)
    have JL : Hid ((tidyS (xs ++ ys)).length ≤ 400) := Lib.hid (by have := HS.out; omega)
    have ML : Hid ((ys.foldl withoutP xs).length ≤ 400) := Lib.hid (by have := HS.out; omega)
    clear j1 j2 j3 j4 m1 m2 m3 m4 k1 k2 k3 k4 nj nm nb ek cwf hcm hcb hcj hsum bj
    go_wp2_with fail
    refine (pacheck_any _ A _ c xs HA.out (by have := HS.out; omega)).mono ?_
    rintro e w20 ⟨rfl, hc⟩
    rw [e1]
    replace C := Lib.hid (C.out.trans hc)
    replace HA := Lib.hid (HA.out.chg hc (by simp))
    replace HB := Lib.hid (HB.out.chg hc (by simp))
    replace HD := Lib.hid (HD.out.chg hc (by simp))
    replace B0 := Lib.hid (hc.at_ B0.out (by simp))
    replace HO := Lib.hid (fun a ha => Nat.lt_of_lt_of_le (HO.out a ha) hc.size)
    replace HO2 := Lib.hid (fun a ha => Nat.lt_of_lt_of_le (HO2.out a ha) hc.size)
    clear hc
    go_wp2_with fail
    refine (pacheck_any _ B _ d ys HB.out (by have := HS.out; omega)).mono ?_
    rintro e w21 ⟨rfl, hc⟩
    rw [e2]
    replace C := Lib.hid (C.out.trans hc)
    replace HA := Lib.hid (HA.out.chg hc (by simp))
    replace HB := Lib.hid (HB.out.chg hc (by simp))
    replace HD := Lib.hid (HD.out.chg hc (by simp))
    replace B0 := Lib.hid (hc.at_ B0.out (by simp))
    replace HO := Lib.hid (fun a ha => Nat.lt_of_lt_of_le (HO.out a ha) hc.size)
    replace HO2 := Lib.hid (fun a ha => Nat.lt_of_lt_of_le (HO2.out a ha) hc.size)
    clear hc e1 e2
    go_wp2_with fail
    refine (join_any _ A c xs B d ys HA.out HC.out.1 HO.out HB.out HC.out.2 HO2.out (by have := HS.out; omega) (by have := HS.out; omega)).mono ?_
    rintro e w22 ⟨AJ, cJ, rfl, hO, hN, hc⟩
    rw [J1.out] at hO ⊢
    dsimp only at hO ⊢
    replace C := Lib.hid (C.out.trans hc)
    replace HA := Lib.hid (HA.out.chg hc (by simp))
    replace HB := Lib.hid (HB.out.chg hc (by simp))
    replace HD := Lib.hid (HD.out.chg hc (by simp))
    replace B0 := Lib.hid (hc.at_ B0.out (by simp))
    replace HO := Lib.hid (fun a ha => Nat.lt_of_lt_of_le (HO.out a ha) hc.size)
    replace HO2 := Lib.hid (fun a ha => Nat.lt_of_lt_of_le (HO2.out a ha) hc.size)
    have FJ := Lib.hid hO
    clear hO hN hc
    go_wp2_with fail
    refine (minus_any _ A c xs B d ys HA.out HC.out.1 HO.out HB.out HC.out.2 HO2.out (by have := HS.out; omega) (by have := HS.out; omega)).mono ?_
    rintro e w23 ⟨AM, cM, rfl, hO, hN, hc⟩
    rw [M1.out] at hO ⊢
    dsimp only at hO ⊢
    replace C := Lib.hid (C.out.trans hc)
    replace HA := Lib.hid (HA.out.chg hc (by simp))
    replace HB := Lib.hid (HB.out.chg hc (by simp))
    replace HD := Lib.hid (HD.out.chg hc (by simp))
    replace B0 := Lib.hid (hc.at_ B0.out (by simp))
    replace HO := Lib.hid (fun a ha => Nat.lt_of_lt_of_le (HO.out a ha) hc.size)
    replace HO2 := Lib.hid (fun a ha => Nat.lt_of_lt_of_le (HO2.out a ha) hc.size)
    replace FJ := Lib.hid (FJ.out.chg hc (by simp))
    have FM := Lib.hid hO
    clear hO hN hc J1 M1
    generalize tidyS (xs ++ ys) = J at *
    generalize ys.foldl withoutP xs = M at *
    go_wp2_with fail
    refine (pacheck_any _ AJ _ cJ J FJ.out.reads (by have := JL.out; omega)).mono ?_
    rintro e w24 ⟨rfl, hc⟩
    rw [JC.out]
    replace C := Lib.hid (C.out.trans hc)
    replace HA := Lib.hid (HA.out.chg hc (by simp))
    replace HB := Lib.hid (HB.out.chg hc (by simp))
    replace HD := Lib.hid (HD.out.chg hc (by simp))
    replace B0 := Lib.hid (hc.at_ B0.out (by simp))
    replace HO := Lib.hid (fun a ha => Nat.lt_of_lt_of_le (HO.out a ha) hc.size)
    replace HO2 := Lib.hid (fun a ha => Nat.lt_of_lt_of_le (HO2.out a ha) hc.size)
    replace FJ := Lib.hid (FJ.out.chg hc (by simp))
    replace FM := Lib.hid (FM.out.chg hc (by simp))
    clear hc
    go_wp2_with fail
    refine (pacheck_any _ AM _ cM M FM.out.reads (by have := ML.out; omega)).mono ?_
    rintro e w25 ⟨rfl, hc⟩
    rw [MC.out]
    replace C := Lib.hid (C.out.trans hc)
    replace HA := Lib.hid (HA.out.chg hc (by simp))
    replace HB := Lib.hid (HB.out.chg hc (by simp))
    replace HD := Lib.hid (HD.out.chg hc (by simp))
    replace B0 := Lib.hid (hc.at_ B0.out (by simp))
    replace HO := Lib.hid (fun a ha => Nat.lt_of_lt_of_le (HO.out a ha) hc.size)
    replace HO2 := Lib.hid (fun a ha => Nat.lt_of_lt_of_le (HO2.out a ha) hc.size)
    replace FJ := Lib.hid (FJ.out.chg hc (by simp))
    replace FM := Lib.hid (FM.out.chg hc (by simp))
    clear hc
    have y0 := cell_of B0.out 0
    have y1 := cell_of B0.out 1
    simp only [List.getElem?_toArray, List.getElem?_cons_succ, List.getElem?_cons_zero] at y0 y1
    go_upto_region 19 with fail
    refine wp_region_held_drew (S := fun w' => w'.cell? ⟨g0, 0, none⟩ = some (.int .i64 n) ∧ w'.cell? ⟨g0, 1, none⟩ = some (.int .i64 s)) (by kernel_rfl) ⟨y0, y1⟩ (fun hHeld => ?_)
    have CD := Lib.hid (Chg.refl [] w25).drew
    clear y0 y1 hHeld
    replace C := Lib.hid (C.out.trans CD.out)
    replace HA := Lib.hid (HA.out.chg CD.out (by simp))
    replace HB := Lib.hid (HB.out.chg CD.out (by simp))
    replace HD := Lib.hid (HD.out.chg CD.out (by simp))
    replace B0 := Lib.hid (CD.out.at_ B0.out (by simp))
    replace HO := Lib.hid (fun a ha => Nat.lt_of_lt_of_le (HO.out a ha) CD.out.size)
    replace HO2 := Lib.hid (fun a ha => Nat.lt_of_lt_of_le (HO2.out a ha) CD.out.size)
    replace FJ := Lib.hid (FJ.out.chg CD.out (by simp))
    replace FM := Lib.hid (FM.out.chg CD.out (by simp))
    clear CD
    generalize w25.drew = w26 at *
    have DX : Hid (∀ w', Chg [] w26 w' → w'.cell? ⟨g0, 0, none⟩ = some (.int .i64 n) ∧ w'.cell? ⟨g0, 1, none⟩ = some (.int .i64 s)) := Lib.hid (fun w' hc => by
      have b := hc.at_ B0.out (by simp)
      exact ⟨cell_of b 0, cell_of b 1⟩)
    obtain ⟨wc, hwc⟩ : ∃ wc, w26 = wc := ⟨_, rfl⟩
    have CC : Hid (Chg [] w26 wc) := Lib.hid (hwc ▸ Chg.refl [] w26)
    rw [hwc]
    clear hwc
    refine sy 0 116 rfl rfl ?_ (hS := (DX.out _ CC.out))
    try simp only [Act.put, sA, s0, s1]
    refine sy 1 117 rfl rfl ?_ (hS := (DX.out _ CC.out)) (hy := by (intro w hSw; (try dsimp only at hSw); obtain ⟨q0, q1⟩ := hSw; go_simp; try with_reducible rfl))
    try simp only [Act.put, sA, s0, s1]
    refine sy 3 119 rfl rfl ?_ (hS := (DX.out _ CC.out))
    try simp only [Act.put, sA, s0, s1]
    refine sy 4 120 rfl rfl ?_ (hS := (DX.out _ CC.out)) (hy := by (intro w hSw; (try dsimp only at hSw); obtain ⟨q0, q1⟩ := hSw; go_simp; try with_reducible rfl))
    try simp only [Act.put, sA, s0, s1]
    refine wpAnyH_ready (rs := [2]) (by kernel_rfl) (by simp) ?_
    refine AllReadyH.cons rfl (fun K hK => ?_) AllReadyH.nil
    replace hK := Lib.hid hK
    go_simp
    refine (has_any _ A c xs n s (HA.out.chg CC.out (by simp)) (by have := HS.out; omega)).mono ?_
    rintro e wc ⟨rfl, hc⟩
    replace CC := Lib.hid (CC.out.trans hc)
    clear hc
    refine hK.out _ _ (DX.out _ CC.out) (fun hHeld => ?_)
    clear hK K
    try simp only [Act.put, sA, s0, s1]
    refine wpAnyH_ready (rs := [5]) (by kernel_rfl) (by simp) ?_
    refine AllReadyH.cons rfl (fun K hK => ?_) AllReadyH.nil
    replace hK := Lib.hid hK
    go_simp
    refine (has_any _ B d ys n s (HB.out.chg CC.out (by simp)) (by have := HS.out; omega)).mono ?_
    rintro e wc ⟨rfl, hc⟩
    replace CC := Lib.hid (CC.out.trans hc)
    clear hc
    refine hK.out _ _ (DX.out _ CC.out) (fun hHeld => ?_)
    clear hK K
    try simp only [Act.put, sA, s0, s1]
    refine sy 6 17 rfl rfl ?_ (hS := (DX.out _ CC.out))
    try simp only [Act.put, sA, s0, s1]
    refine sy 7 18 rfl rfl ?_ (hS := (DX.out _ CC.out))
    try simp only [Act.put, sA, s0, s1]
    refine wpAnyH_done (by kernel_rfl) ?_ _
    clear hHeld
    replace C := Lib.hid (C.out.trans CC.out)
    replace HA := Lib.hid (HA.out.chg CC.out (by simp))
    replace HB := Lib.hid (HB.out.chg CC.out (by simp))
    replace HD := Lib.hid (HD.out.chg CC.out (by simp))
    replace B0 := Lib.hid (CC.out.at_ B0.out (by simp))
    replace HO := Lib.hid (fun a ha => Nat.lt_of_lt_of_le (HO.out a ha) CC.out.size)
    replace HO2 := Lib.hid (fun a ha => Nat.lt_of_lt_of_le (HO2.out a ha) CC.out.size)
    replace FJ := Lib.hid (FJ.out.chg CC.out (by simp))
    replace FM := Lib.hid (FM.out.chg CC.out (by simp))
    clear CC DX
    rcases hi : hasE xs n s with _ | _
    all_goals rcases hb : hasE ys n s with _ | _
    · skip
      have y0 := cell_of B0.out 0
      have y1 := cell_of B0.out 1
      simp only [List.getElem?_toArray, List.getElem?_cons_succ, List.getElem?_cons_zero] at y0 y1
      go_wp2_with fail
      refine (has_any _ AJ cJ J n s FJ.out.reads (by have := JL.out; omega)).mono ?_
      rintro e w30 ⟨rfl, hc⟩
      rw [show hasE J n s = false by rw [EJ.out, hi, hb]; rfl]
      clear y0 y1
      replace C := Lib.hid (C.out.trans hc)
      replace HA := Lib.hid (HA.out.chg hc (by simp))
      replace HB := Lib.hid (HB.out.chg hc (by simp))
      replace HD := Lib.hid (HD.out.chg hc (by simp))
      replace B0 := Lib.hid (hc.at_ B0.out (by simp))
      replace HO := Lib.hid (fun a ha => Nat.lt_of_lt_of_le (HO.out a ha) hc.size)
      replace HO2 := Lib.hid (fun a ha => Nat.lt_of_lt_of_le (HO2.out a ha) hc.size)
      replace FJ := Lib.hid (FJ.out.chg hc (by simp))
      replace FM := Lib.hid (FM.out.chg hc (by simp))
      clear hc
      have y0 := cell_of B0.out 0
      have y1 := cell_of B0.out 1
      simp only [List.getElem?_toArray, List.getElem?_cons_succ, List.getElem?_cons_zero] at y0 y1
      go_wp2_with fail
      refine (has_any _ AM cM M n s FM.out.reads (by have := ML.out; omega)).mono ?_
      rintro e w31 ⟨rfl, hc⟩
      rw [show hasE M n s = false by rw [EM.out, hi, hb]; rfl]
      clear y0 y1
      replace C := Lib.hid (C.out.trans hc)
      replace HA := Lib.hid (HA.out.chg hc (by simp))
      replace HB := Lib.hid (HB.out.chg hc (by simp))
      replace HD := Lib.hid (HD.out.chg hc (by simp))
      replace B0 := Lib.hid (hc.at_ B0.out (by simp))
      replace HO := Lib.hid (fun a ha => Nat.lt_of_lt_of_le (HO.out a ha) hc.size)
      replace HO2 := Lib.hid (fun a ha => Nat.lt_of_lt_of_le (HO2.out a ha) hc.size)
      replace FJ := Lib.hid (FJ.out.chg hc (by simp))
      replace FM := Lib.hid (FM.out.chg hc (by simp))
      clear hc EJ EM hi hb
      go_wp2_with fail
      refine (within_any _ A c xs B d ys HA.out HC.out.1 HO.out HB.out HC.out.2 HO2.out (by have := HS.out; omega) (by have := HS.out; omega)).mono ?_
      rintro e w32 ⟨rfl, hc⟩
      rw [WM.out]
      replace C := Lib.hid (C.out.trans hc)
      replace HA := Lib.hid (HA.out.chg hc (by simp))
      replace HB := Lib.hid (HB.out.chg hc (by simp))
      replace HD := Lib.hid (HD.out.chg hc (by simp))
      replace B0 := Lib.hid (hc.at_ B0.out (by simp))
      replace HO := Lib.hid (fun a ha => Nat.lt_of_lt_of_le (HO.out a ha) hc.size)
      replace HO2 := Lib.hid (fun a ha => Nat.lt_of_lt_of_le (HO2.out a ha) hc.size)
      replace FJ := Lib.hid (FJ.out.chg hc (by simp))
      replace FM := Lib.hid (FM.out.chg hc (by simp))
      clear hc
      by_cases hz : M.length = 0
      rotate_left
      · skip
        have hz2 : ((M.length : Int) == 0) = false := beq_eq_false_iff_ne.2 (by omega)
        have hz3 := decide_eq_false hz
        rw [hz3]
        clear hz hz3
        go_wp2_with fail
        refine (within_any _ A c xs AJ cJ J HA.out HC.out.1 HO.out FJ.out.reads FJ.out.cap FJ.out.lt_ (by have := HS.out; omega) (by have := JL.out; omega)).mono ?_
        rintro e w33 ⟨rfl, hc⟩
        rw [V1.out]
        replace C := Lib.hid (C.out.trans hc)
        replace HA := Lib.hid (HA.out.chg hc (by simp))
        replace HB := Lib.hid (HB.out.chg hc (by simp))
        replace HD := Lib.hid (HD.out.chg hc (by simp))
        replace B0 := Lib.hid (hc.at_ B0.out (by simp))
        replace HO := Lib.hid (fun a ha => Nat.lt_of_lt_of_le (HO.out a ha) hc.size)
        replace HO2 := Lib.hid (fun a ha => Nat.lt_of_lt_of_le (HO2.out a ha) hc.size)
        replace FJ := Lib.hid (FJ.out.chg hc (by simp))
        replace FM := Lib.hid (FM.out.chg hc (by simp))
        clear hc
        go_wp2_with fail
        refine (within_any _ B d ys AJ cJ J HB.out HC.out.2 HO2.out FJ.out.reads FJ.out.cap FJ.out.lt_ (by have := HS.out; omega) (by have := JL.out; omega)).mono ?_
        rintro e w34 ⟨rfl, hc⟩
        rw [V2.out]
        replace C := Lib.hid (C.out.trans hc)
        replace HA := Lib.hid (HA.out.chg hc (by simp))
        replace HB := Lib.hid (HB.out.chg hc (by simp))
        replace HD := Lib.hid (HD.out.chg hc (by simp))
        replace B0 := Lib.hid (hc.at_ B0.out (by simp))
        replace HO := Lib.hid (fun a ha => Nat.lt_of_lt_of_le (HO.out a ha) hc.size)
        replace HO2 := Lib.hid (fun a ha => Nat.lt_of_lt_of_le (HO2.out a ha) hc.size)
        replace FJ := Lib.hid (FJ.out.chg hc (by simp))
        replace FM := Lib.hid (FM.out.chg hc (by simp))
        clear hc
        go_wp2_with fail
        refine (within_any _ AM cM M A c xs FM.out.reads FM.out.cap FM.out.lt_ HA.out HC.out.1 HO.out (by have := ML.out; omega) (by have := HS.out; omega)).mono ?_
        rintro e w35 ⟨rfl, hc⟩
        rw [V3.out]
        replace C := Lib.hid (C.out.trans hc)
        replace HA := Lib.hid (HA.out.chg hc (by simp))
        replace HB := Lib.hid (HB.out.chg hc (by simp))
        replace HD := Lib.hid (HD.out.chg hc (by simp))
        replace B0 := Lib.hid (hc.at_ B0.out (by simp))
        replace HO := Lib.hid (fun a ha => Nat.lt_of_lt_of_le (HO.out a ha) hc.size)
        replace HO2 := Lib.hid (fun a ha => Nat.lt_of_lt_of_le (HO2.out a ha) hc.size)
        replace FJ := Lib.hid (FJ.out.chg hc (by simp))
        replace FM := Lib.hid (FM.out.chg hc (by simp))
        clear hc hz2
        go_wp2_with fail
        refine (join_any _ AM cM M B d ys FM.out.reads FM.out.cap FM.out.lt_ HB.out HC.out.2 HO2.out (by have := ML.out; omega) (by have := HS.out; omega)).mono ?_
        rintro e w36 ⟨AK, cK, rfl, hO, hN, hc⟩
        rw [KJ.out] at hO ⊢
        dsimp only at hO ⊢
        replace C := Lib.hid (C.out.trans hc)
        replace HA := Lib.hid (HA.out.chg hc (by simp))
        replace HB := Lib.hid (HB.out.chg hc (by simp))
        replace HD := Lib.hid (HD.out.chg hc (by simp))
        replace B0 := Lib.hid (hc.at_ B0.out (by simp))
        replace HO := Lib.hid (fun a ha => Nat.lt_of_lt_of_le (HO.out a ha) hc.size)
        replace HO2 := Lib.hid (fun a ha => Nat.lt_of_lt_of_le (HO2.out a ha) hc.size)
        replace FJ := Lib.hid (FJ.out.chg hc (by simp))
        replace FM := Lib.hid (FM.out.chg hc (by simp))
        have FK := Lib.hid hO
        clear hO hN hc
        go_wp2_with fail
        refine (samespan_any _ AK AJ _ _ cK cJ J J FK.out.reads FJ.out.reads (by have := JL.out; omega) (by have := JL.out; omega)).mono ?_
        rintro e w37 ⟨rfl, hc⟩
        rw [show (J == J) = true by simp]
        replace C := Lib.hid (C.out.trans hc)
        replace HA := Lib.hid (HA.out.chg hc (by simp))
        replace HB := Lib.hid (HB.out.chg hc (by simp))
        replace HD := Lib.hid (HD.out.chg hc (by simp))
        replace B0 := Lib.hid (hc.at_ B0.out (by simp))
        replace HO := Lib.hid (fun a ha => Nat.lt_of_lt_of_le (HO.out a ha) hc.size)
        replace HO2 := Lib.hid (fun a ha => Nat.lt_of_lt_of_le (HO2.out a ha) hc.size)
        replace FJ := Lib.hid (FJ.out.chg hc (by simp))
        replace FM := Lib.hid (FM.out.chg hc (by simp))
        replace FK := Lib.hid (FK.out.chg hc (by simp))
        clear hc
        go_wp2_with fail
        refine (count_any _ AM cM M FM.out.reads (by have := ML.out; omega)).mono ?_
        rintro e w38 ⟨rfl, hc⟩
        rw [CM.out]
        replace C := Lib.hid (C.out.trans hc)
        replace HA := Lib.hid (HA.out.chg hc (by simp))
        replace HB := Lib.hid (HB.out.chg hc (by simp))
        replace HD := Lib.hid (HD.out.chg hc (by simp))
        replace B0 := Lib.hid (hc.at_ B0.out (by simp))
        replace HO := Lib.hid (fun a ha => Nat.lt_of_lt_of_le (HO.out a ha) hc.size)
        replace HO2 := Lib.hid (fun a ha => Nat.lt_of_lt_of_le (HO2.out a ha) hc.size)
        replace FJ := Lib.hid (FJ.out.chg hc (by simp))
        replace FM := Lib.hid (FM.out.chg hc (by simp))
        replace FK := Lib.hid (FK.out.chg hc (by simp))
        clear hc
        go_wp2_with fail
        refine (count_any _ B d ys HB.out (by have := HS.out; omega)).mono ?_
        rintro e w39 ⟨rfl, hc⟩
        rw [CB.out]
        replace C := Lib.hid (C.out.trans hc)
        replace HA := Lib.hid (HA.out.chg hc (by simp))
        replace HB := Lib.hid (HB.out.chg hc (by simp))
        replace HD := Lib.hid (HD.out.chg hc (by simp))
        replace B0 := Lib.hid (hc.at_ B0.out (by simp))
        replace HO := Lib.hid (fun a ha => Nat.lt_of_lt_of_le (HO.out a ha) hc.size)
        replace HO2 := Lib.hid (fun a ha => Nat.lt_of_lt_of_le (HO2.out a ha) hc.size)
        replace FJ := Lib.hid (FJ.out.chg hc (by simp))
        replace FM := Lib.hid (FM.out.chg hc (by simp))
        replace FK := Lib.hid (FK.out.chg hc (by simp))
        clear hc
        go_wp2_with fail
        refine (count_any _ AJ cJ J FJ.out.reads (by have := JL.out; omega)).mono ?_
        rintro e w40 ⟨rfl, hc⟩
        rw [CJ.out]
        replace C := Lib.hid (C.out.trans hc)
        replace HA := Lib.hid (HA.out.chg hc (by simp))
        replace HB := Lib.hid (HB.out.chg hc (by simp))
        replace HD := Lib.hid (HD.out.chg hc (by simp))
        replace B0 := Lib.hid (hc.at_ B0.out (by simp))
        replace HO := Lib.hid (fun a ha => Nat.lt_of_lt_of_le (HO.out a ha) hc.size)
        replace HO2 := Lib.hid (fun a ha => Nat.lt_of_lt_of_le (HO2.out a ha) hc.size)
        replace FJ := Lib.hid (FJ.out.chg hc (by simp))
        replace FM := Lib.hid (FM.out.chg hc (by simp))
        replace FK := Lib.hid (FK.out.chg hc (by simp))
        clear hc
        have cw := CW.out
        have ce := CE.out
        go_wp2
        go_ret
        exact ⟨(by first | rfl | (simp; done) | (simp; rw [← IntWalk.i64_left]; exact CW.out)), C.out⟩
      · skip
        have hz2 : ((M.length : Int) == 0) = true := by simpa using hz
        have hz3 := decide_eq_true hz
        rw [hz3]
        have hz4 := Lib.hid hz
        clear hz hz3
        go_wp2_with fail
        refine (within_any _ A c xs AJ cJ J HA.out HC.out.1 HO.out FJ.out.reads FJ.out.cap FJ.out.lt_ (by have := HS.out; omega) (by have := JL.out; omega)).mono ?_
        rintro e w33 ⟨rfl, hc⟩
        rw [V1.out]
        replace C := Lib.hid (C.out.trans hc)
        replace HA := Lib.hid (HA.out.chg hc (by simp))
        replace HB := Lib.hid (HB.out.chg hc (by simp))
        replace HD := Lib.hid (HD.out.chg hc (by simp))
        replace B0 := Lib.hid (hc.at_ B0.out (by simp))
        replace HO := Lib.hid (fun a ha => Nat.lt_of_lt_of_le (HO.out a ha) hc.size)
        replace HO2 := Lib.hid (fun a ha => Nat.lt_of_lt_of_le (HO2.out a ha) hc.size)
        replace FJ := Lib.hid (FJ.out.chg hc (by simp))
        replace FM := Lib.hid (FM.out.chg hc (by simp))
        clear hc
        go_wp2_with fail
        refine (within_any _ B d ys AJ cJ J HB.out HC.out.2 HO2.out FJ.out.reads FJ.out.cap FJ.out.lt_ (by have := HS.out; omega) (by have := JL.out; omega)).mono ?_
        rintro e w34 ⟨rfl, hc⟩
        rw [V2.out]
        replace C := Lib.hid (C.out.trans hc)
        replace HA := Lib.hid (HA.out.chg hc (by simp))
        replace HB := Lib.hid (HB.out.chg hc (by simp))
        replace HD := Lib.hid (HD.out.chg hc (by simp))
        replace B0 := Lib.hid (hc.at_ B0.out (by simp))
        replace HO := Lib.hid (fun a ha => Nat.lt_of_lt_of_le (HO.out a ha) hc.size)
        replace HO2 := Lib.hid (fun a ha => Nat.lt_of_lt_of_le (HO2.out a ha) hc.size)
        replace FJ := Lib.hid (FJ.out.chg hc (by simp))
        replace FM := Lib.hid (FM.out.chg hc (by simp))
        clear hc
        go_wp2_with fail
        refine (within_any _ AM cM M A c xs FM.out.reads FM.out.cap FM.out.lt_ HA.out HC.out.1 HO.out (by have := ML.out; omega) (by have := HS.out; omega)).mono ?_
        rintro e w35 ⟨rfl, hc⟩
        rw [V3.out]
        replace C := Lib.hid (C.out.trans hc)
        replace HA := Lib.hid (HA.out.chg hc (by simp))
        replace HB := Lib.hid (HB.out.chg hc (by simp))
        replace HD := Lib.hid (HD.out.chg hc (by simp))
        replace B0 := Lib.hid (hc.at_ B0.out (by simp))
        replace HO := Lib.hid (fun a ha => Nat.lt_of_lt_of_le (HO.out a ha) hc.size)
        replace HO2 := Lib.hid (fun a ha => Nat.lt_of_lt_of_le (HO2.out a ha) hc.size)
        replace FJ := Lib.hid (FJ.out.chg hc (by simp))
        replace FM := Lib.hid (FM.out.chg hc (by simp))
        clear hc hz2
        go_wp2_with fail
        refine (join_any _ AM cM M B d ys FM.out.reads FM.out.cap FM.out.lt_ HB.out HC.out.2 HO2.out (by have := ML.out; omega) (by have := HS.out; omega)).mono ?_
        rintro e w36 ⟨AK, cK, rfl, hO, hN, hc⟩
        rw [KJ.out] at hO ⊢
        dsimp only at hO ⊢
        replace C := Lib.hid (C.out.trans hc)
        replace HA := Lib.hid (HA.out.chg hc (by simp))
        replace HB := Lib.hid (HB.out.chg hc (by simp))
        replace HD := Lib.hid (HD.out.chg hc (by simp))
        replace B0 := Lib.hid (hc.at_ B0.out (by simp))
        replace HO := Lib.hid (fun a ha => Nat.lt_of_lt_of_le (HO.out a ha) hc.size)
        replace HO2 := Lib.hid (fun a ha => Nat.lt_of_lt_of_le (HO2.out a ha) hc.size)
        replace FJ := Lib.hid (FJ.out.chg hc (by simp))
        replace FM := Lib.hid (FM.out.chg hc (by simp))
        have FK := Lib.hid hO
        clear hO hN hc
        go_wp2_with fail
        refine (samespan_any _ AK AJ _ _ cK cJ J J FK.out.reads FJ.out.reads (by have := JL.out; omega) (by have := JL.out; omega)).mono ?_
        rintro e w37 ⟨rfl, hc⟩
        rw [show (J == J) = true by simp]
        replace C := Lib.hid (C.out.trans hc)
        replace HA := Lib.hid (HA.out.chg hc (by simp))
        replace HB := Lib.hid (HB.out.chg hc (by simp))
        replace HD := Lib.hid (HD.out.chg hc (by simp))
        replace B0 := Lib.hid (hc.at_ B0.out (by simp))
        replace HO := Lib.hid (fun a ha => Nat.lt_of_lt_of_le (HO.out a ha) hc.size)
        replace HO2 := Lib.hid (fun a ha => Nat.lt_of_lt_of_le (HO2.out a ha) hc.size)
        replace FJ := Lib.hid (FJ.out.chg hc (by simp))
        replace FM := Lib.hid (FM.out.chg hc (by simp))
        replace FK := Lib.hid (FK.out.chg hc (by simp))
        clear hc
        go_wp2_with fail
        refine (count_any _ AM cM M FM.out.reads (by have := ML.out; omega)).mono ?_
        rintro e w38 ⟨rfl, hc⟩
        rw [CM.out]
        replace C := Lib.hid (C.out.trans hc)
        replace HA := Lib.hid (HA.out.chg hc (by simp))
        replace HB := Lib.hid (HB.out.chg hc (by simp))
        replace HD := Lib.hid (HD.out.chg hc (by simp))
        replace B0 := Lib.hid (hc.at_ B0.out (by simp))
        replace HO := Lib.hid (fun a ha => Nat.lt_of_lt_of_le (HO.out a ha) hc.size)
        replace HO2 := Lib.hid (fun a ha => Nat.lt_of_lt_of_le (HO2.out a ha) hc.size)
        replace FJ := Lib.hid (FJ.out.chg hc (by simp))
        replace FM := Lib.hid (FM.out.chg hc (by simp))
        replace FK := Lib.hid (FK.out.chg hc (by simp))
        clear hc
        go_wp2_with fail
        refine (count_any _ B d ys HB.out (by have := HS.out; omega)).mono ?_
        rintro e w39 ⟨rfl, hc⟩
        rw [CB.out]
        replace C := Lib.hid (C.out.trans hc)
        replace HA := Lib.hid (HA.out.chg hc (by simp))
        replace HB := Lib.hid (HB.out.chg hc (by simp))
        replace HD := Lib.hid (HD.out.chg hc (by simp))
        replace B0 := Lib.hid (hc.at_ B0.out (by simp))
        replace HO := Lib.hid (fun a ha => Nat.lt_of_lt_of_le (HO.out a ha) hc.size)
        replace HO2 := Lib.hid (fun a ha => Nat.lt_of_lt_of_le (HO2.out a ha) hc.size)
        replace FJ := Lib.hid (FJ.out.chg hc (by simp))
        replace FM := Lib.hid (FM.out.chg hc (by simp))
        replace FK := Lib.hid (FK.out.chg hc (by simp))
        clear hc
        go_wp2_with fail
        refine (count_any _ AJ cJ J FJ.out.reads (by have := JL.out; omega)).mono ?_
        rintro e w40 ⟨rfl, hc⟩
        rw [CJ.out]
        replace C := Lib.hid (C.out.trans hc)
        replace HA := Lib.hid (HA.out.chg hc (by simp))
        replace HB := Lib.hid (HB.out.chg hc (by simp))
        replace HD := Lib.hid (HD.out.chg hc (by simp))
        replace B0 := Lib.hid (hc.at_ B0.out (by simp))
        replace HO := Lib.hid (fun a ha => Nat.lt_of_lt_of_le (HO.out a ha) hc.size)
        replace HO2 := Lib.hid (fun a ha => Nat.lt_of_lt_of_le (HO2.out a ha) hc.size)
        replace FJ := Lib.hid (FJ.out.chg hc (by simp))
        replace FM := Lib.hid (FM.out.chg hc (by simp))
        replace FK := Lib.hid (FK.out.chg hc (by simp))
        clear hc
        have cw := CW.out
        have ce := CE.out
        go_wp2
        go_ret
        exact ⟨(by first | rfl | (simp; done) | (simp; rw [← IntWalk.i64_left]; exact CW.out)), C.out⟩
    · skip
      have y0 := cell_of B0.out 0
      have y1 := cell_of B0.out 1
      simp only [List.getElem?_toArray, List.getElem?_cons_succ, List.getElem?_cons_zero] at y0 y1
      go_wp2_with fail
      refine (has_any _ AJ cJ J n s FJ.out.reads (by have := JL.out; omega)).mono ?_
      rintro e w30 ⟨rfl, hc⟩
      rw [show hasE J n s = true by rw [EJ.out, hi, hb]; rfl]
      clear y0 y1
      replace C := Lib.hid (C.out.trans hc)
      replace HA := Lib.hid (HA.out.chg hc (by simp))
      replace HB := Lib.hid (HB.out.chg hc (by simp))
      replace HD := Lib.hid (HD.out.chg hc (by simp))
      replace B0 := Lib.hid (hc.at_ B0.out (by simp))
      replace HO := Lib.hid (fun a ha => Nat.lt_of_lt_of_le (HO.out a ha) hc.size)
      replace HO2 := Lib.hid (fun a ha => Nat.lt_of_lt_of_le (HO2.out a ha) hc.size)
      replace FJ := Lib.hid (FJ.out.chg hc (by simp))
      replace FM := Lib.hid (FM.out.chg hc (by simp))
      clear hc
      have y0 := cell_of B0.out 0
      have y1 := cell_of B0.out 1
      simp only [List.getElem?_toArray, List.getElem?_cons_succ, List.getElem?_cons_zero] at y0 y1
      go_wp2_with fail
      refine (has_any _ AM cM M n s FM.out.reads (by have := ML.out; omega)).mono ?_
      rintro e w31 ⟨rfl, hc⟩
      rw [show hasE M n s = false by rw [EM.out, hi, hb]; rfl]
      clear y0 y1
      replace C := Lib.hid (C.out.trans hc)
      replace HA := Lib.hid (HA.out.chg hc (by simp))
      replace HB := Lib.hid (HB.out.chg hc (by simp))
      replace HD := Lib.hid (HD.out.chg hc (by simp))
      replace B0 := Lib.hid (hc.at_ B0.out (by simp))
      replace HO := Lib.hid (fun a ha => Nat.lt_of_lt_of_le (HO.out a ha) hc.size)
      replace HO2 := Lib.hid (fun a ha => Nat.lt_of_lt_of_le (HO2.out a ha) hc.size)
      replace FJ := Lib.hid (FJ.out.chg hc (by simp))
      replace FM := Lib.hid (FM.out.chg hc (by simp))
      clear hc EJ EM hi hb
      go_wp2_with fail
      refine (within_any _ A c xs B d ys HA.out HC.out.1 HO.out HB.out HC.out.2 HO2.out (by have := HS.out; omega) (by have := HS.out; omega)).mono ?_
      rintro e w32 ⟨rfl, hc⟩
      rw [WM.out]
      replace C := Lib.hid (C.out.trans hc)
      replace HA := Lib.hid (HA.out.chg hc (by simp))
      replace HB := Lib.hid (HB.out.chg hc (by simp))
      replace HD := Lib.hid (HD.out.chg hc (by simp))
      replace B0 := Lib.hid (hc.at_ B0.out (by simp))
      replace HO := Lib.hid (fun a ha => Nat.lt_of_lt_of_le (HO.out a ha) hc.size)
      replace HO2 := Lib.hid (fun a ha => Nat.lt_of_lt_of_le (HO2.out a ha) hc.size)
      replace FJ := Lib.hid (FJ.out.chg hc (by simp))
      replace FM := Lib.hid (FM.out.chg hc (by simp))
      clear hc
      by_cases hz : M.length = 0
      rotate_left
      · skip
        have hz2 : ((M.length : Int) == 0) = false := beq_eq_false_iff_ne.2 (by omega)
        have hz3 := decide_eq_false hz
        rw [hz3]
        clear hz hz3
        go_wp2_with fail
        refine (within_any _ A c xs AJ cJ J HA.out HC.out.1 HO.out FJ.out.reads FJ.out.cap FJ.out.lt_ (by have := HS.out; omega) (by have := JL.out; omega)).mono ?_
        rintro e w33 ⟨rfl, hc⟩
        rw [V1.out]
        replace C := Lib.hid (C.out.trans hc)
        replace HA := Lib.hid (HA.out.chg hc (by simp))
        replace HB := Lib.hid (HB.out.chg hc (by simp))
        replace HD := Lib.hid (HD.out.chg hc (by simp))
        replace B0 := Lib.hid (hc.at_ B0.out (by simp))
        replace HO := Lib.hid (fun a ha => Nat.lt_of_lt_of_le (HO.out a ha) hc.size)
        replace HO2 := Lib.hid (fun a ha => Nat.lt_of_lt_of_le (HO2.out a ha) hc.size)
        replace FJ := Lib.hid (FJ.out.chg hc (by simp))
        replace FM := Lib.hid (FM.out.chg hc (by simp))
        clear hc
        go_wp2_with fail
        refine (within_any _ B d ys AJ cJ J HB.out HC.out.2 HO2.out FJ.out.reads FJ.out.cap FJ.out.lt_ (by have := HS.out; omega) (by have := JL.out; omega)).mono ?_
        rintro e w34 ⟨rfl, hc⟩
        rw [V2.out]
        replace C := Lib.hid (C.out.trans hc)
        replace HA := Lib.hid (HA.out.chg hc (by simp))
        replace HB := Lib.hid (HB.out.chg hc (by simp))
        replace HD := Lib.hid (HD.out.chg hc (by simp))
        replace B0 := Lib.hid (hc.at_ B0.out (by simp))
        replace HO := Lib.hid (fun a ha => Nat.lt_of_lt_of_le (HO.out a ha) hc.size)
        replace HO2 := Lib.hid (fun a ha => Nat.lt_of_lt_of_le (HO2.out a ha) hc.size)
        replace FJ := Lib.hid (FJ.out.chg hc (by simp))
        replace FM := Lib.hid (FM.out.chg hc (by simp))
        clear hc
        go_wp2_with fail
        refine (within_any _ AM cM M A c xs FM.out.reads FM.out.cap FM.out.lt_ HA.out HC.out.1 HO.out (by have := ML.out; omega) (by have := HS.out; omega)).mono ?_
        rintro e w35 ⟨rfl, hc⟩
        rw [V3.out]
        replace C := Lib.hid (C.out.trans hc)
        replace HA := Lib.hid (HA.out.chg hc (by simp))
        replace HB := Lib.hid (HB.out.chg hc (by simp))
        replace HD := Lib.hid (HD.out.chg hc (by simp))
        replace B0 := Lib.hid (hc.at_ B0.out (by simp))
        replace HO := Lib.hid (fun a ha => Nat.lt_of_lt_of_le (HO.out a ha) hc.size)
        replace HO2 := Lib.hid (fun a ha => Nat.lt_of_lt_of_le (HO2.out a ha) hc.size)
        replace FJ := Lib.hid (FJ.out.chg hc (by simp))
        replace FM := Lib.hid (FM.out.chg hc (by simp))
        clear hc hz2
        go_wp2_with fail
        refine (join_any _ AM cM M B d ys FM.out.reads FM.out.cap FM.out.lt_ HB.out HC.out.2 HO2.out (by have := ML.out; omega) (by have := HS.out; omega)).mono ?_
        rintro e w36 ⟨AK, cK, rfl, hO, hN, hc⟩
        rw [KJ.out] at hO ⊢
        dsimp only at hO ⊢
        replace C := Lib.hid (C.out.trans hc)
        replace HA := Lib.hid (HA.out.chg hc (by simp))
        replace HB := Lib.hid (HB.out.chg hc (by simp))
        replace HD := Lib.hid (HD.out.chg hc (by simp))
        replace B0 := Lib.hid (hc.at_ B0.out (by simp))
        replace HO := Lib.hid (fun a ha => Nat.lt_of_lt_of_le (HO.out a ha) hc.size)
        replace HO2 := Lib.hid (fun a ha => Nat.lt_of_lt_of_le (HO2.out a ha) hc.size)
        replace FJ := Lib.hid (FJ.out.chg hc (by simp))
        replace FM := Lib.hid (FM.out.chg hc (by simp))
        have FK := Lib.hid hO
        clear hO hN hc
        go_wp2_with fail
        refine (samespan_any _ AK AJ _ _ cK cJ J J FK.out.reads FJ.out.reads (by have := JL.out; omega) (by have := JL.out; omega)).mono ?_
        rintro e w37 ⟨rfl, hc⟩
        rw [show (J == J) = true by simp]
        replace C := Lib.hid (C.out.trans hc)
        replace HA := Lib.hid (HA.out.chg hc (by simp))
        replace HB := Lib.hid (HB.out.chg hc (by simp))
        replace HD := Lib.hid (HD.out.chg hc (by simp))
        replace B0 := Lib.hid (hc.at_ B0.out (by simp))
        replace HO := Lib.hid (fun a ha => Nat.lt_of_lt_of_le (HO.out a ha) hc.size)
        replace HO2 := Lib.hid (fun a ha => Nat.lt_of_lt_of_le (HO2.out a ha) hc.size)
        replace FJ := Lib.hid (FJ.out.chg hc (by simp))
        replace FM := Lib.hid (FM.out.chg hc (by simp))
        replace FK := Lib.hid (FK.out.chg hc (by simp))
        clear hc
        go_wp2_with fail
        refine (count_any _ AM cM M FM.out.reads (by have := ML.out; omega)).mono ?_
        rintro e w38 ⟨rfl, hc⟩
        rw [CM.out]
        replace C := Lib.hid (C.out.trans hc)
        replace HA := Lib.hid (HA.out.chg hc (by simp))
        replace HB := Lib.hid (HB.out.chg hc (by simp))
        replace HD := Lib.hid (HD.out.chg hc (by simp))
        replace B0 := Lib.hid (hc.at_ B0.out (by simp))
        replace HO := Lib.hid (fun a ha => Nat.lt_of_lt_of_le (HO.out a ha) hc.size)
        replace HO2 := Lib.hid (fun a ha => Nat.lt_of_lt_of_le (HO2.out a ha) hc.size)
        replace FJ := Lib.hid (FJ.out.chg hc (by simp))
        replace FM := Lib.hid (FM.out.chg hc (by simp))
        replace FK := Lib.hid (FK.out.chg hc (by simp))
        clear hc
        go_wp2_with fail
        refine (count_any _ B d ys HB.out (by have := HS.out; omega)).mono ?_
        rintro e w39 ⟨rfl, hc⟩
        rw [CB.out]
        replace C := Lib.hid (C.out.trans hc)
        replace HA := Lib.hid (HA.out.chg hc (by simp))
        replace HB := Lib.hid (HB.out.chg hc (by simp))
        replace HD := Lib.hid (HD.out.chg hc (by simp))
        replace B0 := Lib.hid (hc.at_ B0.out (by simp))
        replace HO := Lib.hid (fun a ha => Nat.lt_of_lt_of_le (HO.out a ha) hc.size)
        replace HO2 := Lib.hid (fun a ha => Nat.lt_of_lt_of_le (HO2.out a ha) hc.size)
        replace FJ := Lib.hid (FJ.out.chg hc (by simp))
        replace FM := Lib.hid (FM.out.chg hc (by simp))
        replace FK := Lib.hid (FK.out.chg hc (by simp))
        clear hc
        go_wp2_with fail
        refine (count_any _ AJ cJ J FJ.out.reads (by have := JL.out; omega)).mono ?_
        rintro e w40 ⟨rfl, hc⟩
        rw [CJ.out]
        replace C := Lib.hid (C.out.trans hc)
        replace HA := Lib.hid (HA.out.chg hc (by simp))
        replace HB := Lib.hid (HB.out.chg hc (by simp))
        replace HD := Lib.hid (HD.out.chg hc (by simp))
        replace B0 := Lib.hid (hc.at_ B0.out (by simp))
        replace HO := Lib.hid (fun a ha => Nat.lt_of_lt_of_le (HO.out a ha) hc.size)
        replace HO2 := Lib.hid (fun a ha => Nat.lt_of_lt_of_le (HO2.out a ha) hc.size)
        replace FJ := Lib.hid (FJ.out.chg hc (by simp))
        replace FM := Lib.hid (FM.out.chg hc (by simp))
        replace FK := Lib.hid (FK.out.chg hc (by simp))
        clear hc
        have cw := CW.out
        have ce := CE.out
        go_wp2
        go_ret
        exact ⟨(by first | rfl | (simp; done) | (simp; rw [← IntWalk.i64_left]; exact CW.out)), C.out⟩
      · skip
        have hz2 : ((M.length : Int) == 0) = true := by simpa using hz
        have hz3 := decide_eq_true hz
        rw [hz3]
        have hz4 := Lib.hid hz
        clear hz hz3
        go_wp2_with fail
        refine (within_any _ A c xs AJ cJ J HA.out HC.out.1 HO.out FJ.out.reads FJ.out.cap FJ.out.lt_ (by have := HS.out; omega) (by have := JL.out; omega)).mono ?_
        rintro e w33 ⟨rfl, hc⟩
        rw [V1.out]
        replace C := Lib.hid (C.out.trans hc)
        replace HA := Lib.hid (HA.out.chg hc (by simp))
        replace HB := Lib.hid (HB.out.chg hc (by simp))
        replace HD := Lib.hid (HD.out.chg hc (by simp))
        replace B0 := Lib.hid (hc.at_ B0.out (by simp))
        replace HO := Lib.hid (fun a ha => Nat.lt_of_lt_of_le (HO.out a ha) hc.size)
        replace HO2 := Lib.hid (fun a ha => Nat.lt_of_lt_of_le (HO2.out a ha) hc.size)
        replace FJ := Lib.hid (FJ.out.chg hc (by simp))
        replace FM := Lib.hid (FM.out.chg hc (by simp))
        clear hc
        go_wp2_with fail
        refine (within_any _ B d ys AJ cJ J HB.out HC.out.2 HO2.out FJ.out.reads FJ.out.cap FJ.out.lt_ (by have := HS.out; omega) (by have := JL.out; omega)).mono ?_
        rintro e w34 ⟨rfl, hc⟩
        rw [V2.out]
        replace C := Lib.hid (C.out.trans hc)
        replace HA := Lib.hid (HA.out.chg hc (by simp))
        replace HB := Lib.hid (HB.out.chg hc (by simp))
        replace HD := Lib.hid (HD.out.chg hc (by simp))
        replace B0 := Lib.hid (hc.at_ B0.out (by simp))
        replace HO := Lib.hid (fun a ha => Nat.lt_of_lt_of_le (HO.out a ha) hc.size)
        replace HO2 := Lib.hid (fun a ha => Nat.lt_of_lt_of_le (HO2.out a ha) hc.size)
        replace FJ := Lib.hid (FJ.out.chg hc (by simp))
        replace FM := Lib.hid (FM.out.chg hc (by simp))
        clear hc
        go_wp2_with fail
        refine (within_any _ AM cM M A c xs FM.out.reads FM.out.cap FM.out.lt_ HA.out HC.out.1 HO.out (by have := ML.out; omega) (by have := HS.out; omega)).mono ?_
        rintro e w35 ⟨rfl, hc⟩
        rw [V3.out]
        replace C := Lib.hid (C.out.trans hc)
        replace HA := Lib.hid (HA.out.chg hc (by simp))
        replace HB := Lib.hid (HB.out.chg hc (by simp))
        replace HD := Lib.hid (HD.out.chg hc (by simp))
        replace B0 := Lib.hid (hc.at_ B0.out (by simp))
        replace HO := Lib.hid (fun a ha => Nat.lt_of_lt_of_le (HO.out a ha) hc.size)
        replace HO2 := Lib.hid (fun a ha => Nat.lt_of_lt_of_le (HO2.out a ha) hc.size)
        replace FJ := Lib.hid (FJ.out.chg hc (by simp))
        replace FM := Lib.hid (FM.out.chg hc (by simp))
        clear hc hz2
        go_wp2_with fail
        refine (join_any _ AM cM M B d ys FM.out.reads FM.out.cap FM.out.lt_ HB.out HC.out.2 HO2.out (by have := ML.out; omega) (by have := HS.out; omega)).mono ?_
        rintro e w36 ⟨AK, cK, rfl, hO, hN, hc⟩
        rw [KJ.out] at hO ⊢
        dsimp only at hO ⊢
        replace C := Lib.hid (C.out.trans hc)
        replace HA := Lib.hid (HA.out.chg hc (by simp))
        replace HB := Lib.hid (HB.out.chg hc (by simp))
        replace HD := Lib.hid (HD.out.chg hc (by simp))
        replace B0 := Lib.hid (hc.at_ B0.out (by simp))
        replace HO := Lib.hid (fun a ha => Nat.lt_of_lt_of_le (HO.out a ha) hc.size)
        replace HO2 := Lib.hid (fun a ha => Nat.lt_of_lt_of_le (HO2.out a ha) hc.size)
        replace FJ := Lib.hid (FJ.out.chg hc (by simp))
        replace FM := Lib.hid (FM.out.chg hc (by simp))
        have FK := Lib.hid hO
        clear hO hN hc
        go_wp2_with fail
        refine (samespan_any _ AK AJ _ _ cK cJ J J FK.out.reads FJ.out.reads (by have := JL.out; omega) (by have := JL.out; omega)).mono ?_
        rintro e w37 ⟨rfl, hc⟩
        rw [show (J == J) = true by simp]
        replace C := Lib.hid (C.out.trans hc)
        replace HA := Lib.hid (HA.out.chg hc (by simp))
        replace HB := Lib.hid (HB.out.chg hc (by simp))
        replace HD := Lib.hid (HD.out.chg hc (by simp))
        replace B0 := Lib.hid (hc.at_ B0.out (by simp))
        replace HO := Lib.hid (fun a ha => Nat.lt_of_lt_of_le (HO.out a ha) hc.size)
        replace HO2 := Lib.hid (fun a ha => Nat.lt_of_lt_of_le (HO2.out a ha) hc.size)
        replace FJ := Lib.hid (FJ.out.chg hc (by simp))
        replace FM := Lib.hid (FM.out.chg hc (by simp))
        replace FK := Lib.hid (FK.out.chg hc (by simp))
        clear hc
        go_wp2_with fail
        refine (count_any _ AM cM M FM.out.reads (by have := ML.out; omega)).mono ?_
        rintro e w38 ⟨rfl, hc⟩
        rw [CM.out]
        replace C := Lib.hid (C.out.trans hc)
        replace HA := Lib.hid (HA.out.chg hc (by simp))
        replace HB := Lib.hid (HB.out.chg hc (by simp))
        replace HD := Lib.hid (HD.out.chg hc (by simp))
        replace B0 := Lib.hid (hc.at_ B0.out (by simp))
        replace HO := Lib.hid (fun a ha => Nat.lt_of_lt_of_le (HO.out a ha) hc.size)
        replace HO2 := Lib.hid (fun a ha => Nat.lt_of_lt_of_le (HO2.out a ha) hc.size)
        replace FJ := Lib.hid (FJ.out.chg hc (by simp))
        replace FM := Lib.hid (FM.out.chg hc (by simp))
        replace FK := Lib.hid (FK.out.chg hc (by simp))
        clear hc
        go_wp2_with fail
        refine (count_any _ B d ys HB.out (by have := HS.out; omega)).mono ?_
        rintro e w39 ⟨rfl, hc⟩
        rw [CB.out]
        replace C := Lib.hid (C.out.trans hc)
        replace HA := Lib.hid (HA.out.chg hc (by simp))
        replace HB := Lib.hid (HB.out.chg hc (by simp))
        replace HD := Lib.hid (HD.out.chg hc (by simp))
        replace B0 := Lib.hid (hc.at_ B0.out (by simp))
        replace HO := Lib.hid (fun a ha => Nat.lt_of_lt_of_le (HO.out a ha) hc.size)
        replace HO2 := Lib.hid (fun a ha => Nat.lt_of_lt_of_le (HO2.out a ha) hc.size)
        replace FJ := Lib.hid (FJ.out.chg hc (by simp))
        replace FM := Lib.hid (FM.out.chg hc (by simp))
        replace FK := Lib.hid (FK.out.chg hc (by simp))
        clear hc
        go_wp2_with fail
        refine (count_any _ AJ cJ J FJ.out.reads (by have := JL.out; omega)).mono ?_
        rintro e w40 ⟨rfl, hc⟩
        rw [CJ.out]
        replace C := Lib.hid (C.out.trans hc)
        replace HA := Lib.hid (HA.out.chg hc (by simp))
        replace HB := Lib.hid (HB.out.chg hc (by simp))
        replace HD := Lib.hid (HD.out.chg hc (by simp))
        replace B0 := Lib.hid (hc.at_ B0.out (by simp))
        replace HO := Lib.hid (fun a ha => Nat.lt_of_lt_of_le (HO.out a ha) hc.size)
        replace HO2 := Lib.hid (fun a ha => Nat.lt_of_lt_of_le (HO2.out a ha) hc.size)
        replace FJ := Lib.hid (FJ.out.chg hc (by simp))
        replace FM := Lib.hid (FM.out.chg hc (by simp))
        replace FK := Lib.hid (FK.out.chg hc (by simp))
        clear hc
        have cw := CW.out
        have ce := CE.out
        go_wp2
        go_ret
        exact ⟨(by first | rfl | (simp; done) | (simp; rw [← IntWalk.i64_left]; exact CW.out)), C.out⟩
    · skip
      have y0 := cell_of B0.out 0
      have y1 := cell_of B0.out 1
      simp only [List.getElem?_toArray, List.getElem?_cons_succ, List.getElem?_cons_zero] at y0 y1
      go_wp2_with fail
      refine (has_any _ AJ cJ J n s FJ.out.reads (by have := JL.out; omega)).mono ?_
      rintro e w30 ⟨rfl, hc⟩
      rw [show hasE J n s = true by rw [EJ.out, hi, hb]; rfl]
      clear y0 y1
      replace C := Lib.hid (C.out.trans hc)
      replace HA := Lib.hid (HA.out.chg hc (by simp))
      replace HB := Lib.hid (HB.out.chg hc (by simp))
      replace HD := Lib.hid (HD.out.chg hc (by simp))
      replace B0 := Lib.hid (hc.at_ B0.out (by simp))
      replace HO := Lib.hid (fun a ha => Nat.lt_of_lt_of_le (HO.out a ha) hc.size)
      replace HO2 := Lib.hid (fun a ha => Nat.lt_of_lt_of_le (HO2.out a ha) hc.size)
      replace FJ := Lib.hid (FJ.out.chg hc (by simp))
      replace FM := Lib.hid (FM.out.chg hc (by simp))
      clear hc
      have y0 := cell_of B0.out 0
      have y1 := cell_of B0.out 1
      simp only [List.getElem?_toArray, List.getElem?_cons_succ, List.getElem?_cons_zero] at y0 y1
      go_wp2_with fail
      refine (has_any _ AM cM M n s FM.out.reads (by have := ML.out; omega)).mono ?_
      rintro e w31 ⟨rfl, hc⟩
      rw [show hasE M n s = true by rw [EM.out, hi, hb]; rfl]
      clear y0 y1
      replace C := Lib.hid (C.out.trans hc)
      replace HA := Lib.hid (HA.out.chg hc (by simp))
      replace HB := Lib.hid (HB.out.chg hc (by simp))
      replace HD := Lib.hid (HD.out.chg hc (by simp))
      replace B0 := Lib.hid (hc.at_ B0.out (by simp))
      replace HO := Lib.hid (fun a ha => Nat.lt_of_lt_of_le (HO.out a ha) hc.size)
      replace HO2 := Lib.hid (fun a ha => Nat.lt_of_lt_of_le (HO2.out a ha) hc.size)
      replace FJ := Lib.hid (FJ.out.chg hc (by simp))
      replace FM := Lib.hid (FM.out.chg hc (by simp))
      clear hc EJ EM hi hb
      go_wp2_with fail
      refine (within_any _ A c xs B d ys HA.out HC.out.1 HO.out HB.out HC.out.2 HO2.out (by have := HS.out; omega) (by have := HS.out; omega)).mono ?_
      rintro e w32 ⟨rfl, hc⟩
      rw [WM.out]
      replace C := Lib.hid (C.out.trans hc)
      replace HA := Lib.hid (HA.out.chg hc (by simp))
      replace HB := Lib.hid (HB.out.chg hc (by simp))
      replace HD := Lib.hid (HD.out.chg hc (by simp))
      replace B0 := Lib.hid (hc.at_ B0.out (by simp))
      replace HO := Lib.hid (fun a ha => Nat.lt_of_lt_of_le (HO.out a ha) hc.size)
      replace HO2 := Lib.hid (fun a ha => Nat.lt_of_lt_of_le (HO2.out a ha) hc.size)
      replace FJ := Lib.hid (FJ.out.chg hc (by simp))
      replace FM := Lib.hid (FM.out.chg hc (by simp))
      clear hc
      by_cases hz : M.length = 0
      rotate_left
      · skip
        have hz2 : ((M.length : Int) == 0) = false := beq_eq_false_iff_ne.2 (by omega)
        have hz3 := decide_eq_false hz
        rw [hz3]
        clear hz hz3
        go_wp2_with fail
        refine (within_any _ A c xs AJ cJ J HA.out HC.out.1 HO.out FJ.out.reads FJ.out.cap FJ.out.lt_ (by have := HS.out; omega) (by have := JL.out; omega)).mono ?_
        rintro e w33 ⟨rfl, hc⟩
        rw [V1.out]
        replace C := Lib.hid (C.out.trans hc)
        replace HA := Lib.hid (HA.out.chg hc (by simp))
        replace HB := Lib.hid (HB.out.chg hc (by simp))
        replace HD := Lib.hid (HD.out.chg hc (by simp))
        replace B0 := Lib.hid (hc.at_ B0.out (by simp))
        replace HO := Lib.hid (fun a ha => Nat.lt_of_lt_of_le (HO.out a ha) hc.size)
        replace HO2 := Lib.hid (fun a ha => Nat.lt_of_lt_of_le (HO2.out a ha) hc.size)
        replace FJ := Lib.hid (FJ.out.chg hc (by simp))
        replace FM := Lib.hid (FM.out.chg hc (by simp))
        clear hc
        go_wp2_with fail
        refine (within_any _ B d ys AJ cJ J HB.out HC.out.2 HO2.out FJ.out.reads FJ.out.cap FJ.out.lt_ (by have := HS.out; omega) (by have := JL.out; omega)).mono ?_
        rintro e w34 ⟨rfl, hc⟩
        rw [V2.out]
        replace C := Lib.hid (C.out.trans hc)
        replace HA := Lib.hid (HA.out.chg hc (by simp))
        replace HB := Lib.hid (HB.out.chg hc (by simp))
        replace HD := Lib.hid (HD.out.chg hc (by simp))
        replace B0 := Lib.hid (hc.at_ B0.out (by simp))
        replace HO := Lib.hid (fun a ha => Nat.lt_of_lt_of_le (HO.out a ha) hc.size)
        replace HO2 := Lib.hid (fun a ha => Nat.lt_of_lt_of_le (HO2.out a ha) hc.size)
        replace FJ := Lib.hid (FJ.out.chg hc (by simp))
        replace FM := Lib.hid (FM.out.chg hc (by simp))
        clear hc
        go_wp2_with fail
        refine (within_any _ AM cM M A c xs FM.out.reads FM.out.cap FM.out.lt_ HA.out HC.out.1 HO.out (by have := ML.out; omega) (by have := HS.out; omega)).mono ?_
        rintro e w35 ⟨rfl, hc⟩
        rw [V3.out]
        replace C := Lib.hid (C.out.trans hc)
        replace HA := Lib.hid (HA.out.chg hc (by simp))
        replace HB := Lib.hid (HB.out.chg hc (by simp))
        replace HD := Lib.hid (HD.out.chg hc (by simp))
        replace B0 := Lib.hid (hc.at_ B0.out (by simp))
        replace HO := Lib.hid (fun a ha => Nat.lt_of_lt_of_le (HO.out a ha) hc.size)
        replace HO2 := Lib.hid (fun a ha => Nat.lt_of_lt_of_le (HO2.out a ha) hc.size)
        replace FJ := Lib.hid (FJ.out.chg hc (by simp))
        replace FM := Lib.hid (FM.out.chg hc (by simp))
        clear hc hz2
        go_wp2_with fail
        refine (join_any _ AM cM M B d ys FM.out.reads FM.out.cap FM.out.lt_ HB.out HC.out.2 HO2.out (by have := ML.out; omega) (by have := HS.out; omega)).mono ?_
        rintro e w36 ⟨AK, cK, rfl, hO, hN, hc⟩
        rw [KJ.out] at hO ⊢
        dsimp only at hO ⊢
        replace C := Lib.hid (C.out.trans hc)
        replace HA := Lib.hid (HA.out.chg hc (by simp))
        replace HB := Lib.hid (HB.out.chg hc (by simp))
        replace HD := Lib.hid (HD.out.chg hc (by simp))
        replace B0 := Lib.hid (hc.at_ B0.out (by simp))
        replace HO := Lib.hid (fun a ha => Nat.lt_of_lt_of_le (HO.out a ha) hc.size)
        replace HO2 := Lib.hid (fun a ha => Nat.lt_of_lt_of_le (HO2.out a ha) hc.size)
        replace FJ := Lib.hid (FJ.out.chg hc (by simp))
        replace FM := Lib.hid (FM.out.chg hc (by simp))
        have FK := Lib.hid hO
        clear hO hN hc
        go_wp2_with fail
        refine (samespan_any _ AK AJ _ _ cK cJ J J FK.out.reads FJ.out.reads (by have := JL.out; omega) (by have := JL.out; omega)).mono ?_
        rintro e w37 ⟨rfl, hc⟩
        rw [show (J == J) = true by simp]
        replace C := Lib.hid (C.out.trans hc)
        replace HA := Lib.hid (HA.out.chg hc (by simp))
        replace HB := Lib.hid (HB.out.chg hc (by simp))
        replace HD := Lib.hid (HD.out.chg hc (by simp))
        replace B0 := Lib.hid (hc.at_ B0.out (by simp))
        replace HO := Lib.hid (fun a ha => Nat.lt_of_lt_of_le (HO.out a ha) hc.size)
        replace HO2 := Lib.hid (fun a ha => Nat.lt_of_lt_of_le (HO2.out a ha) hc.size)
        replace FJ := Lib.hid (FJ.out.chg hc (by simp))
        replace FM := Lib.hid (FM.out.chg hc (by simp))
        replace FK := Lib.hid (FK.out.chg hc (by simp))
        clear hc
        go_wp2_with fail
        refine (count_any _ AM cM M FM.out.reads (by have := ML.out; omega)).mono ?_
        rintro e w38 ⟨rfl, hc⟩
        rw [CM.out]
        replace C := Lib.hid (C.out.trans hc)
        replace HA := Lib.hid (HA.out.chg hc (by simp))
        replace HB := Lib.hid (HB.out.chg hc (by simp))
        replace HD := Lib.hid (HD.out.chg hc (by simp))
        replace B0 := Lib.hid (hc.at_ B0.out (by simp))
        replace HO := Lib.hid (fun a ha => Nat.lt_of_lt_of_le (HO.out a ha) hc.size)
        replace HO2 := Lib.hid (fun a ha => Nat.lt_of_lt_of_le (HO2.out a ha) hc.size)
        replace FJ := Lib.hid (FJ.out.chg hc (by simp))
        replace FM := Lib.hid (FM.out.chg hc (by simp))
        replace FK := Lib.hid (FK.out.chg hc (by simp))
        clear hc
        go_wp2_with fail
        refine (count_any _ B d ys HB.out (by have := HS.out; omega)).mono ?_
        rintro e w39 ⟨rfl, hc⟩
        rw [CB.out]
        replace C := Lib.hid (C.out.trans hc)
        replace HA := Lib.hid (HA.out.chg hc (by simp))
        replace HB := Lib.hid (HB.out.chg hc (by simp))
        replace HD := Lib.hid (HD.out.chg hc (by simp))
        replace B0 := Lib.hid (hc.at_ B0.out (by simp))
        replace HO := Lib.hid (fun a ha => Nat.lt_of_lt_of_le (HO.out a ha) hc.size)
        replace HO2 := Lib.hid (fun a ha => Nat.lt_of_lt_of_le (HO2.out a ha) hc.size)
        replace FJ := Lib.hid (FJ.out.chg hc (by simp))
        replace FM := Lib.hid (FM.out.chg hc (by simp))
        replace FK := Lib.hid (FK.out.chg hc (by simp))
        clear hc
        go_wp2_with fail
        refine (count_any _ AJ cJ J FJ.out.reads (by have := JL.out; omega)).mono ?_
        rintro e w40 ⟨rfl, hc⟩
        rw [CJ.out]
        replace C := Lib.hid (C.out.trans hc)
        replace HA := Lib.hid (HA.out.chg hc (by simp))
        replace HB := Lib.hid (HB.out.chg hc (by simp))
        replace HD := Lib.hid (HD.out.chg hc (by simp))
        replace B0 := Lib.hid (hc.at_ B0.out (by simp))
        replace HO := Lib.hid (fun a ha => Nat.lt_of_lt_of_le (HO.out a ha) hc.size)
        replace HO2 := Lib.hid (fun a ha => Nat.lt_of_lt_of_le (HO2.out a ha) hc.size)
        replace FJ := Lib.hid (FJ.out.chg hc (by simp))
        replace FM := Lib.hid (FM.out.chg hc (by simp))
        replace FK := Lib.hid (FK.out.chg hc (by simp))
        clear hc
        have cw := CW.out
        have ce := CE.out
        go_wp2
        go_ret
        exact ⟨(by first | rfl | (simp; done) | (simp; rw [← IntWalk.i64_left]; exact CW.out)), C.out⟩
      · skip
        have hz2 : ((M.length : Int) == 0) = true := by simpa using hz
        have hz3 := decide_eq_true hz
        rw [hz3]
        have hz4 := Lib.hid hz
        clear hz hz3
        go_wp2_with fail
        refine (within_any _ A c xs AJ cJ J HA.out HC.out.1 HO.out FJ.out.reads FJ.out.cap FJ.out.lt_ (by have := HS.out; omega) (by have := JL.out; omega)).mono ?_
        rintro e w33 ⟨rfl, hc⟩
        rw [V1.out]
        replace C := Lib.hid (C.out.trans hc)
        replace HA := Lib.hid (HA.out.chg hc (by simp))
        replace HB := Lib.hid (HB.out.chg hc (by simp))
        replace HD := Lib.hid (HD.out.chg hc (by simp))
        replace B0 := Lib.hid (hc.at_ B0.out (by simp))
        replace HO := Lib.hid (fun a ha => Nat.lt_of_lt_of_le (HO.out a ha) hc.size)
        replace HO2 := Lib.hid (fun a ha => Nat.lt_of_lt_of_le (HO2.out a ha) hc.size)
        replace FJ := Lib.hid (FJ.out.chg hc (by simp))
        replace FM := Lib.hid (FM.out.chg hc (by simp))
        clear hc
        go_wp2_with fail
        refine (within_any _ B d ys AJ cJ J HB.out HC.out.2 HO2.out FJ.out.reads FJ.out.cap FJ.out.lt_ (by have := HS.out; omega) (by have := JL.out; omega)).mono ?_
        rintro e w34 ⟨rfl, hc⟩
        rw [V2.out]
        replace C := Lib.hid (C.out.trans hc)
        replace HA := Lib.hid (HA.out.chg hc (by simp))
        replace HB := Lib.hid (HB.out.chg hc (by simp))
        replace HD := Lib.hid (HD.out.chg hc (by simp))
        replace B0 := Lib.hid (hc.at_ B0.out (by simp))
        replace HO := Lib.hid (fun a ha => Nat.lt_of_lt_of_le (HO.out a ha) hc.size)
        replace HO2 := Lib.hid (fun a ha => Nat.lt_of_lt_of_le (HO2.out a ha) hc.size)
        replace FJ := Lib.hid (FJ.out.chg hc (by simp))
        replace FM := Lib.hid (FM.out.chg hc (by simp))
        clear hc
        go_wp2_with fail
        refine (within_any _ AM cM M A c xs FM.out.reads FM.out.cap FM.out.lt_ HA.out HC.out.1 HO.out (by have := ML.out; omega) (by have := HS.out; omega)).mono ?_
        rintro e w35 ⟨rfl, hc⟩
        rw [V3.out]
        replace C := Lib.hid (C.out.trans hc)
        replace HA := Lib.hid (HA.out.chg hc (by simp))
        replace HB := Lib.hid (HB.out.chg hc (by simp))
        replace HD := Lib.hid (HD.out.chg hc (by simp))
        replace B0 := Lib.hid (hc.at_ B0.out (by simp))
        replace HO := Lib.hid (fun a ha => Nat.lt_of_lt_of_le (HO.out a ha) hc.size)
        replace HO2 := Lib.hid (fun a ha => Nat.lt_of_lt_of_le (HO2.out a ha) hc.size)
        replace FJ := Lib.hid (FJ.out.chg hc (by simp))
        replace FM := Lib.hid (FM.out.chg hc (by simp))
        clear hc hz2
        go_wp2_with fail
        refine (join_any _ AM cM M B d ys FM.out.reads FM.out.cap FM.out.lt_ HB.out HC.out.2 HO2.out (by have := ML.out; omega) (by have := HS.out; omega)).mono ?_
        rintro e w36 ⟨AK, cK, rfl, hO, hN, hc⟩
        rw [KJ.out] at hO ⊢
        dsimp only at hO ⊢
        replace C := Lib.hid (C.out.trans hc)
        replace HA := Lib.hid (HA.out.chg hc (by simp))
        replace HB := Lib.hid (HB.out.chg hc (by simp))
        replace HD := Lib.hid (HD.out.chg hc (by simp))
        replace B0 := Lib.hid (hc.at_ B0.out (by simp))
        replace HO := Lib.hid (fun a ha => Nat.lt_of_lt_of_le (HO.out a ha) hc.size)
        replace HO2 := Lib.hid (fun a ha => Nat.lt_of_lt_of_le (HO2.out a ha) hc.size)
        replace FJ := Lib.hid (FJ.out.chg hc (by simp))
        replace FM := Lib.hid (FM.out.chg hc (by simp))
        have FK := Lib.hid hO
        clear hO hN hc
        go_wp2_with fail
        refine (samespan_any _ AK AJ _ _ cK cJ J J FK.out.reads FJ.out.reads (by have := JL.out; omega) (by have := JL.out; omega)).mono ?_
        rintro e w37 ⟨rfl, hc⟩
        rw [show (J == J) = true by simp]
        replace C := Lib.hid (C.out.trans hc)
        replace HA := Lib.hid (HA.out.chg hc (by simp))
        replace HB := Lib.hid (HB.out.chg hc (by simp))
        replace HD := Lib.hid (HD.out.chg hc (by simp))
        replace B0 := Lib.hid (hc.at_ B0.out (by simp))
        replace HO := Lib.hid (fun a ha => Nat.lt_of_lt_of_le (HO.out a ha) hc.size)
        replace HO2 := Lib.hid (fun a ha => Nat.lt_of_lt_of_le (HO2.out a ha) hc.size)
        replace FJ := Lib.hid (FJ.out.chg hc (by simp))
        replace FM := Lib.hid (FM.out.chg hc (by simp))
        replace FK := Lib.hid (FK.out.chg hc (by simp))
        clear hc
        go_wp2_with fail
        refine (count_any _ AM cM M FM.out.reads (by have := ML.out; omega)).mono ?_
        rintro e w38 ⟨rfl, hc⟩
        rw [CM.out]
        replace C := Lib.hid (C.out.trans hc)
        replace HA := Lib.hid (HA.out.chg hc (by simp))
        replace HB := Lib.hid (HB.out.chg hc (by simp))
        replace HD := Lib.hid (HD.out.chg hc (by simp))
        replace B0 := Lib.hid (hc.at_ B0.out (by simp))
        replace HO := Lib.hid (fun a ha => Nat.lt_of_lt_of_le (HO.out a ha) hc.size)
        replace HO2 := Lib.hid (fun a ha => Nat.lt_of_lt_of_le (HO2.out a ha) hc.size)
        replace FJ := Lib.hid (FJ.out.chg hc (by simp))
        replace FM := Lib.hid (FM.out.chg hc (by simp))
        replace FK := Lib.hid (FK.out.chg hc (by simp))
        clear hc
        go_wp2_with fail
        refine (count_any _ B d ys HB.out (by have := HS.out; omega)).mono ?_
        rintro e w39 ⟨rfl, hc⟩
        rw [CB.out]
        replace C := Lib.hid (C.out.trans hc)
        replace HA := Lib.hid (HA.out.chg hc (by simp))
        replace HB := Lib.hid (HB.out.chg hc (by simp))
        replace HD := Lib.hid (HD.out.chg hc (by simp))
        replace B0 := Lib.hid (hc.at_ B0.out (by simp))
        replace HO := Lib.hid (fun a ha => Nat.lt_of_lt_of_le (HO.out a ha) hc.size)
        replace HO2 := Lib.hid (fun a ha => Nat.lt_of_lt_of_le (HO2.out a ha) hc.size)
        replace FJ := Lib.hid (FJ.out.chg hc (by simp))
        replace FM := Lib.hid (FM.out.chg hc (by simp))
        replace FK := Lib.hid (FK.out.chg hc (by simp))
        clear hc
        go_wp2_with fail
        refine (count_any _ AJ cJ J FJ.out.reads (by have := JL.out; omega)).mono ?_
        rintro e w40 ⟨rfl, hc⟩
        rw [CJ.out]
        replace C := Lib.hid (C.out.trans hc)
        replace HA := Lib.hid (HA.out.chg hc (by simp))
        replace HB := Lib.hid (HB.out.chg hc (by simp))
        replace HD := Lib.hid (HD.out.chg hc (by simp))
        replace B0 := Lib.hid (hc.at_ B0.out (by simp))
        replace HO := Lib.hid (fun a ha => Nat.lt_of_lt_of_le (HO.out a ha) hc.size)
        replace HO2 := Lib.hid (fun a ha => Nat.lt_of_lt_of_le (HO2.out a ha) hc.size)
        replace FJ := Lib.hid (FJ.out.chg hc (by simp))
        replace FM := Lib.hid (FM.out.chg hc (by simp))
        replace FK := Lib.hid (FK.out.chg hc (by simp))
        clear hc
        have cw := CW.out
        have ce := CE.out
        go_wp2
        go_ret
        exact ⟨(by first | rfl | (simp; done) | (simp; rw [← IntWalk.i64_left]; exact CW.out)), C.out⟩
    · skip
      have y0 := cell_of B0.out 0
      have y1 := cell_of B0.out 1
      simp only [List.getElem?_toArray, List.getElem?_cons_succ, List.getElem?_cons_zero] at y0 y1
      go_wp2_with fail
      refine (has_any _ AJ cJ J n s FJ.out.reads (by have := JL.out; omega)).mono ?_
      rintro e w30 ⟨rfl, hc⟩
      rw [show hasE J n s = true by rw [EJ.out, hi, hb]; rfl]
      clear y0 y1
      replace C := Lib.hid (C.out.trans hc)
      replace HA := Lib.hid (HA.out.chg hc (by simp))
      replace HB := Lib.hid (HB.out.chg hc (by simp))
      replace HD := Lib.hid (HD.out.chg hc (by simp))
      replace B0 := Lib.hid (hc.at_ B0.out (by simp))
      replace HO := Lib.hid (fun a ha => Nat.lt_of_lt_of_le (HO.out a ha) hc.size)
      replace HO2 := Lib.hid (fun a ha => Nat.lt_of_lt_of_le (HO2.out a ha) hc.size)
      replace FJ := Lib.hid (FJ.out.chg hc (by simp))
      replace FM := Lib.hid (FM.out.chg hc (by simp))
      clear hc
      have y0 := cell_of B0.out 0
      have y1 := cell_of B0.out 1
      simp only [List.getElem?_toArray, List.getElem?_cons_succ, List.getElem?_cons_zero] at y0 y1
      go_wp2_with fail
      refine (has_any _ AM cM M n s FM.out.reads (by have := ML.out; omega)).mono ?_
      rintro e w31 ⟨rfl, hc⟩
      rw [show hasE M n s = false by rw [EM.out, hi, hb]; rfl]
      clear y0 y1
      replace C := Lib.hid (C.out.trans hc)
      replace HA := Lib.hid (HA.out.chg hc (by simp))
      replace HB := Lib.hid (HB.out.chg hc (by simp))
      replace HD := Lib.hid (HD.out.chg hc (by simp))
      replace B0 := Lib.hid (hc.at_ B0.out (by simp))
      replace HO := Lib.hid (fun a ha => Nat.lt_of_lt_of_le (HO.out a ha) hc.size)
      replace HO2 := Lib.hid (fun a ha => Nat.lt_of_lt_of_le (HO2.out a ha) hc.size)
      replace FJ := Lib.hid (FJ.out.chg hc (by simp))
      replace FM := Lib.hid (FM.out.chg hc (by simp))
      clear hc EJ EM hi hb
      go_wp2_with fail
      refine (within_any _ A c xs B d ys HA.out HC.out.1 HO.out HB.out HC.out.2 HO2.out (by have := HS.out; omega) (by have := HS.out; omega)).mono ?_
      rintro e w32 ⟨rfl, hc⟩
      rw [WM.out]
      replace C := Lib.hid (C.out.trans hc)
      replace HA := Lib.hid (HA.out.chg hc (by simp))
      replace HB := Lib.hid (HB.out.chg hc (by simp))
      replace HD := Lib.hid (HD.out.chg hc (by simp))
      replace B0 := Lib.hid (hc.at_ B0.out (by simp))
      replace HO := Lib.hid (fun a ha => Nat.lt_of_lt_of_le (HO.out a ha) hc.size)
      replace HO2 := Lib.hid (fun a ha => Nat.lt_of_lt_of_le (HO2.out a ha) hc.size)
      replace FJ := Lib.hid (FJ.out.chg hc (by simp))
      replace FM := Lib.hid (FM.out.chg hc (by simp))
      clear hc
      by_cases hz : M.length = 0
      rotate_left
      · skip
        have hz2 : ((M.length : Int) == 0) = false := beq_eq_false_iff_ne.2 (by omega)
        have hz3 := decide_eq_false hz
        rw [hz3]
        clear hz hz3
        go_wp2_with fail
        refine (within_any _ A c xs AJ cJ J HA.out HC.out.1 HO.out FJ.out.reads FJ.out.cap FJ.out.lt_ (by have := HS.out; omega) (by have := JL.out; omega)).mono ?_
        rintro e w33 ⟨rfl, hc⟩
        rw [V1.out]
        replace C := Lib.hid (C.out.trans hc)
        replace HA := Lib.hid (HA.out.chg hc (by simp))
        replace HB := Lib.hid (HB.out.chg hc (by simp))
        replace HD := Lib.hid (HD.out.chg hc (by simp))
        replace B0 := Lib.hid (hc.at_ B0.out (by simp))
        replace HO := Lib.hid (fun a ha => Nat.lt_of_lt_of_le (HO.out a ha) hc.size)
        replace HO2 := Lib.hid (fun a ha => Nat.lt_of_lt_of_le (HO2.out a ha) hc.size)
        replace FJ := Lib.hid (FJ.out.chg hc (by simp))
        replace FM := Lib.hid (FM.out.chg hc (by simp))
        clear hc
        go_wp2_with fail
        refine (within_any _ B d ys AJ cJ J HB.out HC.out.2 HO2.out FJ.out.reads FJ.out.cap FJ.out.lt_ (by have := HS.out; omega) (by have := JL.out; omega)).mono ?_
        rintro e w34 ⟨rfl, hc⟩
        rw [V2.out]
        replace C := Lib.hid (C.out.trans hc)
        replace HA := Lib.hid (HA.out.chg hc (by simp))
        replace HB := Lib.hid (HB.out.chg hc (by simp))
        replace HD := Lib.hid (HD.out.chg hc (by simp))
        replace B0 := Lib.hid (hc.at_ B0.out (by simp))
        replace HO := Lib.hid (fun a ha => Nat.lt_of_lt_of_le (HO.out a ha) hc.size)
        replace HO2 := Lib.hid (fun a ha => Nat.lt_of_lt_of_le (HO2.out a ha) hc.size)
        replace FJ := Lib.hid (FJ.out.chg hc (by simp))
        replace FM := Lib.hid (FM.out.chg hc (by simp))
        clear hc
        go_wp2_with fail
        refine (within_any _ AM cM M A c xs FM.out.reads FM.out.cap FM.out.lt_ HA.out HC.out.1 HO.out (by have := ML.out; omega) (by have := HS.out; omega)).mono ?_
        rintro e w35 ⟨rfl, hc⟩
        rw [V3.out]
        replace C := Lib.hid (C.out.trans hc)
        replace HA := Lib.hid (HA.out.chg hc (by simp))
        replace HB := Lib.hid (HB.out.chg hc (by simp))
        replace HD := Lib.hid (HD.out.chg hc (by simp))
        replace B0 := Lib.hid (hc.at_ B0.out (by simp))
        replace HO := Lib.hid (fun a ha => Nat.lt_of_lt_of_le (HO.out a ha) hc.size)
        replace HO2 := Lib.hid (fun a ha => Nat.lt_of_lt_of_le (HO2.out a ha) hc.size)
        replace FJ := Lib.hid (FJ.out.chg hc (by simp))
        replace FM := Lib.hid (FM.out.chg hc (by simp))
        clear hc hz2
        go_wp2_with fail
        refine (join_any _ AM cM M B d ys FM.out.reads FM.out.cap FM.out.lt_ HB.out HC.out.2 HO2.out (by have := ML.out; omega) (by have := HS.out; omega)).mono ?_
        rintro e w36 ⟨AK, cK, rfl, hO, hN, hc⟩
        rw [KJ.out] at hO ⊢
        dsimp only at hO ⊢
        replace C := Lib.hid (C.out.trans hc)
        replace HA := Lib.hid (HA.out.chg hc (by simp))
        replace HB := Lib.hid (HB.out.chg hc (by simp))
        replace HD := Lib.hid (HD.out.chg hc (by simp))
        replace B0 := Lib.hid (hc.at_ B0.out (by simp))
        replace HO := Lib.hid (fun a ha => Nat.lt_of_lt_of_le (HO.out a ha) hc.size)
        replace HO2 := Lib.hid (fun a ha => Nat.lt_of_lt_of_le (HO2.out a ha) hc.size)
        replace FJ := Lib.hid (FJ.out.chg hc (by simp))
        replace FM := Lib.hid (FM.out.chg hc (by simp))
        have FK := Lib.hid hO
        clear hO hN hc
        go_wp2_with fail
        refine (samespan_any _ AK AJ _ _ cK cJ J J FK.out.reads FJ.out.reads (by have := JL.out; omega) (by have := JL.out; omega)).mono ?_
        rintro e w37 ⟨rfl, hc⟩
        rw [show (J == J) = true by simp]
        replace C := Lib.hid (C.out.trans hc)
        replace HA := Lib.hid (HA.out.chg hc (by simp))
        replace HB := Lib.hid (HB.out.chg hc (by simp))
        replace HD := Lib.hid (HD.out.chg hc (by simp))
        replace B0 := Lib.hid (hc.at_ B0.out (by simp))
        replace HO := Lib.hid (fun a ha => Nat.lt_of_lt_of_le (HO.out a ha) hc.size)
        replace HO2 := Lib.hid (fun a ha => Nat.lt_of_lt_of_le (HO2.out a ha) hc.size)
        replace FJ := Lib.hid (FJ.out.chg hc (by simp))
        replace FM := Lib.hid (FM.out.chg hc (by simp))
        replace FK := Lib.hid (FK.out.chg hc (by simp))
        clear hc
        go_wp2_with fail
        refine (count_any _ AM cM M FM.out.reads (by have := ML.out; omega)).mono ?_
        rintro e w38 ⟨rfl, hc⟩
        rw [CM.out]
        replace C := Lib.hid (C.out.trans hc)
        replace HA := Lib.hid (HA.out.chg hc (by simp))
        replace HB := Lib.hid (HB.out.chg hc (by simp))
        replace HD := Lib.hid (HD.out.chg hc (by simp))
        replace B0 := Lib.hid (hc.at_ B0.out (by simp))
        replace HO := Lib.hid (fun a ha => Nat.lt_of_lt_of_le (HO.out a ha) hc.size)
        replace HO2 := Lib.hid (fun a ha => Nat.lt_of_lt_of_le (HO2.out a ha) hc.size)
        replace FJ := Lib.hid (FJ.out.chg hc (by simp))
        replace FM := Lib.hid (FM.out.chg hc (by simp))
        replace FK := Lib.hid (FK.out.chg hc (by simp))
        clear hc
        go_wp2_with fail
        refine (count_any _ B d ys HB.out (by have := HS.out; omega)).mono ?_
        rintro e w39 ⟨rfl, hc⟩
        rw [CB.out]
        replace C := Lib.hid (C.out.trans hc)
        replace HA := Lib.hid (HA.out.chg hc (by simp))
        replace HB := Lib.hid (HB.out.chg hc (by simp))
        replace HD := Lib.hid (HD.out.chg hc (by simp))
        replace B0 := Lib.hid (hc.at_ B0.out (by simp))
        replace HO := Lib.hid (fun a ha => Nat.lt_of_lt_of_le (HO.out a ha) hc.size)
        replace HO2 := Lib.hid (fun a ha => Nat.lt_of_lt_of_le (HO2.out a ha) hc.size)
        replace FJ := Lib.hid (FJ.out.chg hc (by simp))
        replace FM := Lib.hid (FM.out.chg hc (by simp))
        replace FK := Lib.hid (FK.out.chg hc (by simp))
        clear hc
        go_wp2_with fail
        refine (count_any _ AJ cJ J FJ.out.reads (by have := JL.out; omega)).mono ?_
        rintro e w40 ⟨rfl, hc⟩
        rw [CJ.out]
        replace C := Lib.hid (C.out.trans hc)
        replace HA := Lib.hid (HA.out.chg hc (by simp))
        replace HB := Lib.hid (HB.out.chg hc (by simp))
        replace HD := Lib.hid (HD.out.chg hc (by simp))
        replace B0 := Lib.hid (hc.at_ B0.out (by simp))
        replace HO := Lib.hid (fun a ha => Nat.lt_of_lt_of_le (HO.out a ha) hc.size)
        replace HO2 := Lib.hid (fun a ha => Nat.lt_of_lt_of_le (HO2.out a ha) hc.size)
        replace FJ := Lib.hid (FJ.out.chg hc (by simp))
        replace FM := Lib.hid (FM.out.chg hc (by simp))
        replace FK := Lib.hid (FK.out.chg hc (by simp))
        clear hc
        have cw := CW.out
        have ce := CE.out
        go_wp2
        go_ret
        exact ⟨(by first | rfl | (simp; done) | (simp; rw [← IntWalk.i64_left]; exact CW.out)), C.out⟩
      · skip
        have hz2 : ((M.length : Int) == 0) = true := by simpa using hz
        have hz3 := decide_eq_true hz
        rw [hz3]
        have hz4 := Lib.hid hz
        clear hz hz3
        go_wp2_with fail
        refine (within_any _ A c xs AJ cJ J HA.out HC.out.1 HO.out FJ.out.reads FJ.out.cap FJ.out.lt_ (by have := HS.out; omega) (by have := JL.out; omega)).mono ?_
        rintro e w33 ⟨rfl, hc⟩
        rw [V1.out]
        replace C := Lib.hid (C.out.trans hc)
        replace HA := Lib.hid (HA.out.chg hc (by simp))
        replace HB := Lib.hid (HB.out.chg hc (by simp))
        replace HD := Lib.hid (HD.out.chg hc (by simp))
        replace B0 := Lib.hid (hc.at_ B0.out (by simp))
        replace HO := Lib.hid (fun a ha => Nat.lt_of_lt_of_le (HO.out a ha) hc.size)
        replace HO2 := Lib.hid (fun a ha => Nat.lt_of_lt_of_le (HO2.out a ha) hc.size)
        replace FJ := Lib.hid (FJ.out.chg hc (by simp))
        replace FM := Lib.hid (FM.out.chg hc (by simp))
        clear hc
        go_wp2_with fail
        refine (within_any _ B d ys AJ cJ J HB.out HC.out.2 HO2.out FJ.out.reads FJ.out.cap FJ.out.lt_ (by have := HS.out; omega) (by have := JL.out; omega)).mono ?_
        rintro e w34 ⟨rfl, hc⟩
        rw [V2.out]
        replace C := Lib.hid (C.out.trans hc)
        replace HA := Lib.hid (HA.out.chg hc (by simp))
        replace HB := Lib.hid (HB.out.chg hc (by simp))
        replace HD := Lib.hid (HD.out.chg hc (by simp))
        replace B0 := Lib.hid (hc.at_ B0.out (by simp))
        replace HO := Lib.hid (fun a ha => Nat.lt_of_lt_of_le (HO.out a ha) hc.size)
        replace HO2 := Lib.hid (fun a ha => Nat.lt_of_lt_of_le (HO2.out a ha) hc.size)
        replace FJ := Lib.hid (FJ.out.chg hc (by simp))
        replace FM := Lib.hid (FM.out.chg hc (by simp))
        clear hc
        go_wp2_with fail
        refine (within_any _ AM cM M A c xs FM.out.reads FM.out.cap FM.out.lt_ HA.out HC.out.1 HO.out (by have := ML.out; omega) (by have := HS.out; omega)).mono ?_
        rintro e w35 ⟨rfl, hc⟩
        rw [V3.out]
        replace C := Lib.hid (C.out.trans hc)
        replace HA := Lib.hid (HA.out.chg hc (by simp))
        replace HB := Lib.hid (HB.out.chg hc (by simp))
        replace HD := Lib.hid (HD.out.chg hc (by simp))
        replace B0 := Lib.hid (hc.at_ B0.out (by simp))
        replace HO := Lib.hid (fun a ha => Nat.lt_of_lt_of_le (HO.out a ha) hc.size)
        replace HO2 := Lib.hid (fun a ha => Nat.lt_of_lt_of_le (HO2.out a ha) hc.size)
        replace FJ := Lib.hid (FJ.out.chg hc (by simp))
        replace FM := Lib.hid (FM.out.chg hc (by simp))
        clear hc hz2
        go_wp2_with fail
        refine (join_any _ AM cM M B d ys FM.out.reads FM.out.cap FM.out.lt_ HB.out HC.out.2 HO2.out (by have := ML.out; omega) (by have := HS.out; omega)).mono ?_
        rintro e w36 ⟨AK, cK, rfl, hO, hN, hc⟩
        rw [KJ.out] at hO ⊢
        dsimp only at hO ⊢
        replace C := Lib.hid (C.out.trans hc)
        replace HA := Lib.hid (HA.out.chg hc (by simp))
        replace HB := Lib.hid (HB.out.chg hc (by simp))
        replace HD := Lib.hid (HD.out.chg hc (by simp))
        replace B0 := Lib.hid (hc.at_ B0.out (by simp))
        replace HO := Lib.hid (fun a ha => Nat.lt_of_lt_of_le (HO.out a ha) hc.size)
        replace HO2 := Lib.hid (fun a ha => Nat.lt_of_lt_of_le (HO2.out a ha) hc.size)
        replace FJ := Lib.hid (FJ.out.chg hc (by simp))
        replace FM := Lib.hid (FM.out.chg hc (by simp))
        have FK := Lib.hid hO
        clear hO hN hc
        go_wp2_with fail
        refine (samespan_any _ AK AJ _ _ cK cJ J J FK.out.reads FJ.out.reads (by have := JL.out; omega) (by have := JL.out; omega)).mono ?_
        rintro e w37 ⟨rfl, hc⟩
        rw [show (J == J) = true by simp]
        replace C := Lib.hid (C.out.trans hc)
        replace HA := Lib.hid (HA.out.chg hc (by simp))
        replace HB := Lib.hid (HB.out.chg hc (by simp))
        replace HD := Lib.hid (HD.out.chg hc (by simp))
        replace B0 := Lib.hid (hc.at_ B0.out (by simp))
        replace HO := Lib.hid (fun a ha => Nat.lt_of_lt_of_le (HO.out a ha) hc.size)
        replace HO2 := Lib.hid (fun a ha => Nat.lt_of_lt_of_le (HO2.out a ha) hc.size)
        replace FJ := Lib.hid (FJ.out.chg hc (by simp))
        replace FM := Lib.hid (FM.out.chg hc (by simp))
        replace FK := Lib.hid (FK.out.chg hc (by simp))
        clear hc
        go_wp2_with fail
        refine (count_any _ AM cM M FM.out.reads (by have := ML.out; omega)).mono ?_
        rintro e w38 ⟨rfl, hc⟩
        rw [CM.out]
        replace C := Lib.hid (C.out.trans hc)
        replace HA := Lib.hid (HA.out.chg hc (by simp))
        replace HB := Lib.hid (HB.out.chg hc (by simp))
        replace HD := Lib.hid (HD.out.chg hc (by simp))
        replace B0 := Lib.hid (hc.at_ B0.out (by simp))
        replace HO := Lib.hid (fun a ha => Nat.lt_of_lt_of_le (HO.out a ha) hc.size)
        replace HO2 := Lib.hid (fun a ha => Nat.lt_of_lt_of_le (HO2.out a ha) hc.size)
        replace FJ := Lib.hid (FJ.out.chg hc (by simp))
        replace FM := Lib.hid (FM.out.chg hc (by simp))
        replace FK := Lib.hid (FK.out.chg hc (by simp))
        clear hc
        go_wp2_with fail
        refine (count_any _ B d ys HB.out (by have := HS.out; omega)).mono ?_
        rintro e w39 ⟨rfl, hc⟩
        rw [CB.out]
        replace C := Lib.hid (C.out.trans hc)
        replace HA := Lib.hid (HA.out.chg hc (by simp))
        replace HB := Lib.hid (HB.out.chg hc (by simp))
        replace HD := Lib.hid (HD.out.chg hc (by simp))
        replace B0 := Lib.hid (hc.at_ B0.out (by simp))
        replace HO := Lib.hid (fun a ha => Nat.lt_of_lt_of_le (HO.out a ha) hc.size)
        replace HO2 := Lib.hid (fun a ha => Nat.lt_of_lt_of_le (HO2.out a ha) hc.size)
        replace FJ := Lib.hid (FJ.out.chg hc (by simp))
        replace FM := Lib.hid (FM.out.chg hc (by simp))
        replace FK := Lib.hid (FK.out.chg hc (by simp))
        clear hc
        go_wp2_with fail
        refine (count_any _ AJ cJ J FJ.out.reads (by have := JL.out; omega)).mono ?_
        rintro e w40 ⟨rfl, hc⟩
        rw [CJ.out]
        replace C := Lib.hid (C.out.trans hc)
        replace HA := Lib.hid (HA.out.chg hc (by simp))
        replace HB := Lib.hid (HB.out.chg hc (by simp))
        replace HD := Lib.hid (HD.out.chg hc (by simp))
        replace B0 := Lib.hid (hc.at_ B0.out (by simp))
        replace HO := Lib.hid (fun a ha => Nat.lt_of_lt_of_le (HO.out a ha) hc.size)
        replace HO2 := Lib.hid (fun a ha => Nat.lt_of_lt_of_le (HO2.out a ha) hc.size)
        replace FJ := Lib.hid (FJ.out.chg hc (by simp))
        replace FM := Lib.hid (FM.out.chg hc (by simp))
        replace FK := Lib.hid (FK.out.chg hc (by simp))
        clear hc
        have cw := CW.out
        have ce := CE.out
        go_wp2
        go_ret
        exact ⟨(by first | rfl | (simp; done) | (simp; rw [← IntWalk.i64_left]; exact CW.out)), C.out⟩
  obtain ⟨o1, o2, o3, o4⟩ := of_ok hf (by have := HS.out; omega)
  have ss := sortD_strict l
  have cl : cntL (tidyS (l.map aloneP)) = ((sortD l).length : Int) := cnt_dots (wf_of_chk o2).1.1 (ss.1.imp (fun {x y} (q : LtP x y) => show x ≠ y from fun e => LtP.irr x (by rw [← e] at q; exact q))) (fun n s => (o4 n s).trans (ss.2 (n, s)).symm)
  have CN : Hid ((if chkS (tidyS (l.map aloneP)) = 0 then cntL (tidyS (l.map aloneP)) else 0) = ((sortD l).length : Int)) := Lib.hid (by rw [if_pos o2, cl])
  have MD : Hid ((tidyS (l.map aloneP)).length ≤ 200) := Lib.hid (by have := HS.out; omega)
  have O2 := Lib.hid o2
  have IN : Hid (∀ x ∈ l, hasE (tidyS (l.map aloneP)) x.1 x.2 = true ∧ ∃ v, (if chkS (tidyS (l.map aloneP)) = 0 then lastL x.1 (tidyS (l.map aloneP)) else 0) = v ∧ x.2 ≤ v) := Lib.hid (fun x hx => ⟨by rw [has_iff o2]; exact decide_eq_true ((o4 x.1 x.2).2 hx), _, rfl, by rw [if_pos o2]; exact last_ge (wf_of_chk o2).1 ((o4 x.1 x.2).2 hx)⟩)
  rw [o1] at F9 ⊢
  dsimp only at F9 ⊢
  clear o1 o2 o3 o4 cl ss hf
  generalize tidyS (l.map aloneP) = made at *
  go_wp2_with fail
  refine (pacheck_any _ A9 _ c9 made F9.out.reads (by have := MD.out; omega)).mono ?_
  rintro e w4 ⟨rfl, hc⟩
  rw [O2.out]
  replace C := Lib.hid (C.out.trans hc)
  replace HA := Lib.hid (HA.out.chg hc (by simp))
  replace HB := Lib.hid (HB.out.chg hc (by simp))
  replace HD := Lib.hid (HD.out.chg hc (by simp))
  replace B0 := Lib.hid (hc.at_ B0.out (by simp))
  replace HO := Lib.hid (fun a ha => Nat.lt_of_lt_of_le (HO.out a ha) hc.size)
  replace HO2 := Lib.hid (fun a ha => Nat.lt_of_lt_of_le (HO2.out a ha) hc.size)
  replace F9 := Lib.hid (F9.out.chg hc (by simp))
  clear hc O2
  go_wp2_with fail
  refine (count_any _ A9 c9 made F9.out.reads (by have := MD.out; omega)).mono ?_
  rintro e w5 ⟨rfl, hc⟩
  rw [CN.out]
  replace C := Lib.hid (C.out.trans hc)
  replace HA := Lib.hid (HA.out.chg hc (by simp))
  replace HB := Lib.hid (HB.out.chg hc (by simp))
  replace HD := Lib.hid (HD.out.chg hc (by simp))
  replace B0 := Lib.hid (hc.at_ B0.out (by simp))
  replace HO := Lib.hid (fun a ha => Nat.lt_of_lt_of_le (HO.out a ha) hc.size)
  replace HO2 := Lib.hid (fun a ha => Nat.lt_of_lt_of_le (HO2.out a ha) hc.size)
  replace F9 := Lib.hid (F9.out.chg hc (by simp))
  clear hc CN
  go_wp2_with fail
  refine (dsort_any _ D _ f l HD.out (by have := HS.out; omega)).mono ?_
  rintro e w6 ⟨A10, c10, rfl, hO, hN, hc⟩
  replace C := Lib.hid (C.out.trans hc)
  replace HA := Lib.hid (HA.out.chg hc (by simp))
  replace HB := Lib.hid (HB.out.chg hc (by simp))
  replace HD := Lib.hid (HD.out.chg hc (by simp))
  replace B0 := Lib.hid (hc.at_ B0.out (by simp))
  replace HO := Lib.hid (fun a ha => Nat.lt_of_lt_of_le (HO.out a ha) hc.size)
  replace HO2 := Lib.hid (fun a ha => Nat.lt_of_lt_of_le (HO2.out a ha) hc.size)
  replace F9 := Lib.hid (F9.out.chg hc (by simp))
  clear hO hN hc
  generalize (sortD l).length = sn
  have sn2 : ((sn : Int) == (sn : Int)) = true := by simp
  have sn3 : ((sn : Int) != (sn : Int)) = false := by simp
  go_wp2
  clear sn2 sn3
  go_loopw [12] (fun v12 wr => ∃ (k : Nat), k ≤ l.length ∧ v12 = .int .i64 k ∧ Hid (Chg [] w6 wr)) (fun v12 _ => l.length - (RowKit.intOf v12).toNat)
  case atStart => exact ⟨0, Nat.zero_le _, rfl, Chg.refl _ _⟩
  case round =>
    obtain ⟨k, hk, rfl, RC⟩ := hrel
    have i0 : (0 : Int) ≤ (k : Int) := by omega
    by_cases hlt : k < l.length
    · have i1 : (k : Int) < (l.length : Int) := by omega
      have i3 : IntKind.i64.wrap ((k : Int) + 1) = (k : Int) + 1 := IntWalk.i64_in _ (by have := HS.out; omega)
      obtain ⟨x, hx⟩ : ∃ x, l[k]? = some x := ⟨_, List.getElem?_eq_getElem hlt⟩
      obtain ⟨g, o, eA, _⟩ := HD.out.line (by omega)
      subst eA
      obtain ⟨hx1, lv, hx2, hx3⟩ := IN.out x (List.mem_of_getElem? hx)
      have X1 := Lib.hid hx1
      have X2 := Lib.hid hx2
      have lv2 : ¬ lv < x.2 := by omega
      have lv3 : decide (lv < x.2) = false := decide_eq_false lv2
      have DX : Hid (∀ w', Chg [] w6 w' → w'.cell? ⟨g, o + k * 2, none⟩ = some (.int .i64 x.1) ∧ w'.cell? ⟨g, o + k * 2 + 1, none⟩ = some (.int .i64 x.2)) := Lib.hid (fun w' hc => dotCells (HD.out.chg hc (by simp)) hx)
      obtain ⟨q0, q1⟩ := DX.out _ RC.out
      clear hx hx1 hx2 hx3 lv2
      go_upto_region 11 with fail
      clear q0 q1
      refine wp_region_held_drew (S := fun w' => w'.cell? ⟨g, o + k * 2, none⟩ = some (.int .i64 x.1) ∧ w'.cell? ⟨g, o + k * 2 + 1, none⟩ = some (.int .i64 x.2)) (by kernel_rfl) (DX.out _ (RC.out.trans (Chg.refl [] wr).drew)) (fun hHeld => ?_)
      have CC : Hid (Chg [] w6 wr.drew) := Lib.hid (RC.out.trans (Chg.refl [] wr).drew)
      clear RC hHeld
      generalize wr.drew = wc at *
      refine sy 0 51 rfl rfl ?_ (hS := (DX.out _ CC.out))
      try simp only [Act.put, sA, s0, s1]
      refine sy 1 52 rfl rfl ?_ (hS := (DX.out _ CC.out))
      try simp only [Act.put, sA, s0, s1]
      refine sy 2 53 rfl rfl ?_ (hS := (DX.out _ CC.out))
      try simp only [Act.put, sA, s0, s1]
      refine sy 3 54 rfl rfl ?_ (hS := (DX.out _ CC.out))
      try simp only [Act.put, sA, s0, s1]
      refine sy 4 55 rfl rfl ?_ (hS := (DX.out _ CC.out)) (hy := by (intro w hSw; (try dsimp only at hSw); obtain ⟨q0, q1⟩ := hSw; go_simp; try with_reducible rfl))
      try simp only [Act.put, sA, s0, s1]
      refine wpAnyH_ready (rs := [5]) (by kernel_rfl) (by simp) ?_
      refine AllReadyH.cons rfl (fun K hK => ?_) AllReadyH.nil
      replace hK := Lib.hid hK
      go_simp
      refine (has_any _ A9 c9 made x.1 x.2 (F9.out.reads.chg CC.out (by simp)) (by have := MD.out; omega)).mono ?_
      rintro e wc ⟨rfl, hc⟩
      rw [X1.out]
      replace CC := Lib.hid (CC.out.trans hc)
      clear hc
      refine hK.out _ _ (DX.out _ CC.out) (fun hHeld => ?_)
      clear hK K
      try simp only [Act.put, sA, s0, s1]
      refine sy 6 57 rfl rfl ?_ (hS := (DX.out _ CC.out))
      try simp only [Act.put, sA, s0, s1]
      refine sy 7 58 rfl rfl ?_ (hS := (DX.out _ CC.out))
      try simp only [Act.put, sA, s0, s1]
      refine sy 8 59 rfl rfl ?_ (hS := (DX.out _ CC.out))
      try simp only [Act.put, sA, s0, s1]
      refine sy 9 60 rfl rfl ?_ (hS := (DX.out _ CC.out))
      try simp only [Act.put, sA, s0, s1]
      refine sy 10 61 rfl rfl ?_ (hS := (DX.out _ CC.out))
      try simp only [Act.put, sA, s0, s1]
      refine sy 11 62 rfl rfl ?_ (hS := (DX.out _ CC.out))
      try simp only [Act.put, sA, s0, s1]
      refine sy 12 63 rfl rfl ?_ (hS := (DX.out _ CC.out))
      try simp only [Act.put, sA, s0, s1]
      refine sy 13 64 rfl rfl ?_ (hS := (DX.out _ CC.out)) (hy := by (intro w hSw; (try dsimp only at hSw); obtain ⟨q0, q1⟩ := hSw; go_simp; try with_reducible rfl))
      try simp only [Act.put, sA, s0, s1]
      refine sy 15 66 rfl rfl ?_ (hS := (DX.out _ CC.out))
      try simp only [Act.put, sA, s0, s1]
      refine sy 16 67 rfl rfl ?_ (hS := (DX.out _ CC.out))
      try simp only [Act.put, sA, s0, s1]
      refine sy 17 68 rfl rfl ?_ (hS := (DX.out _ CC.out))
      try simp only [Act.put, sA, s0, s1]
      refine sy 18 69 rfl rfl ?_ (hS := (DX.out _ CC.out))
      try simp only [Act.put, sA, s0, s1]
      refine sy 19 70 rfl rfl ?_ (hS := (DX.out _ CC.out)) (hy := by (intro w hSw; (try dsimp only at hSw); obtain ⟨q0, q1⟩ := hSw; go_simp; try with_reducible rfl))
      try simp only [Act.put, sA, s0, s1]
      refine wpAnyH_ready (rs := [14]) (by kernel_rfl) (by simp) ?_
      refine AllReadyH.cons rfl (fun K hK => ?_) AllReadyH.nil
      replace hK := Lib.hid hK
      go_simp
      refine (last_any _ A9 c9 made x.1 (F9.out.reads.chg CC.out (by simp)) (by have := MD.out; omega)).mono ?_
      rintro e wc ⟨rfl, hc⟩
      rw [X2.out]
      replace CC := Lib.hid (CC.out.trans hc)
      clear hc
      refine hK.out _ _ (DX.out _ CC.out) (fun hHeld => ?_)
      clear hK K
      try simp only [Act.put, sA, s0, s1]
      refine sy 20 71 rfl rfl ?_ (hS := (DX.out _ CC.out))
      try simp only [Act.put, sA, s0, s1]
      refine sy 21 72 rfl rfl ?_ (hS := (DX.out _ CC.out))
      try simp only [Act.put, sA, s0, s1]
      refine wpAnyH_done (by kernel_rfl) ?_ _
      clear hHeld
      go_wp2
      go_round
      case rel => exact ⟨k + 1, by omega, by go_num, CC⟩
      case measure => simp [RowKit.intOf]; omega
    · obtain rfl : k = l.length := by omega
      have i1 : ¬ (l.length : Int) < (l.length : Int) := by omega
      replace C := Lib.hid (C.out.trans RC.out)
      replace HA := Lib.hid (HA.out.chg RC.out (by simp))
      replace HB := Lib.hid (HB.out.chg RC.out (by simp))
      replace HD := Lib.hid (HD.out.chg RC.out (by simp))
      replace B0 := Lib.hid (RC.out.at_ B0.out (by simp))
      replace HO := Lib.hid (fun a ha => Nat.lt_of_lt_of_le (HO.out a ha) RC.out.size)
      replace HO2 := Lib.hid (fun a ha => Nat.lt_of_lt_of_le (HO2.out a ha) RC.out.size)
      replace F9 := Lib.hid (F9.out.chg RC.out (by simp))
      clear RC F9 IN MD
      rcases chk_two xs with e1 | e1
      rotate_left
      · skip
        have EW : Hid (withinE xs ys = false) := Lib.hid (by unfold withinE; rw [decide_eq_false (by omega)]; rfl)
        go_wp2_with fail
        refine (pacheck_any _ A _ c xs HA.out (by have := HS.out; omega)).mono ?_
        rintro e w20 ⟨rfl, hc⟩
        rw [e1]
        replace C := Lib.hid (C.out.trans hc)
        replace HA := Lib.hid (HA.out.chg hc (by simp))
        replace HB := Lib.hid (HB.out.chg hc (by simp))
        replace HD := Lib.hid (HD.out.chg hc (by simp))
        replace B0 := Lib.hid (hc.at_ B0.out (by simp))
        replace HO := Lib.hid (fun a ha => Nat.lt_of_lt_of_le (HO.out a ha) hc.size)
        replace HO2 := Lib.hid (fun a ha => Nat.lt_of_lt_of_le (HO2.out a ha) hc.size)
        clear hc
        go_wp2_with fail
        refine (within_any _ A c xs B d ys HA.out HC.out.1 HO.out HB.out HC.out.2 HO2.out (by have := HS.out; omega) (by have := HS.out; omega)).mono ?_
        rintro e w22 ⟨rfl, hc⟩
        rw [EW.out]
        replace C := Lib.hid (C.out.trans hc)
        replace HA := Lib.hid (HA.out.chg hc (by simp))
        replace HB := Lib.hid (HB.out.chg hc (by simp))
        replace HD := Lib.hid (HD.out.chg hc (by simp))
        replace B0 := Lib.hid (hc.at_ B0.out (by simp))
        replace HO := Lib.hid (fun a ha => Nat.lt_of_lt_of_le (HO.out a ha) hc.size)
        replace HO2 := Lib.hid (fun a ha => Nat.lt_of_lt_of_le (HO2.out a ha) hc.size)
        clear hc
        go_wp2
        go_ret
        exact ⟨(by first | rfl | simp), C.out⟩
      rcases chk_two ys with e2 | e2
      rotate_left
      · skip
        have EW : Hid (withinE xs ys = false) := Lib.hid (by unfold withinE; rw [decide_eq_false (by omega)]; rfl)
        go_wp2_with fail
        refine (pacheck_any _ A _ c xs HA.out (by have := HS.out; omega)).mono ?_
        rintro e w20 ⟨rfl, hc⟩
        rw [e1]
        replace C := Lib.hid (C.out.trans hc)
        replace HA := Lib.hid (HA.out.chg hc (by simp))
        replace HB := Lib.hid (HB.out.chg hc (by simp))
        replace HD := Lib.hid (HD.out.chg hc (by simp))
        replace B0 := Lib.hid (hc.at_ B0.out (by simp))
        replace HO := Lib.hid (fun a ha => Nat.lt_of_lt_of_le (HO.out a ha) hc.size)
        replace HO2 := Lib.hid (fun a ha => Nat.lt_of_lt_of_le (HO2.out a ha) hc.size)
        clear hc
        go_wp2_with fail
        refine (pacheck_any _ B _ d ys HB.out (by have := HS.out; omega)).mono ?_
        rintro e w21 ⟨rfl, hc⟩
        rw [e2]
        replace C := Lib.hid (C.out.trans hc)
        replace HA := Lib.hid (HA.out.chg hc (by simp))
        replace HB := Lib.hid (HB.out.chg hc (by simp))
        replace HD := Lib.hid (HD.out.chg hc (by simp))
        replace B0 := Lib.hid (hc.at_ B0.out (by simp))
        replace HO := Lib.hid (fun a ha => Nat.lt_of_lt_of_le (HO.out a ha) hc.size)
        replace HO2 := Lib.hid (fun a ha => Nat.lt_of_lt_of_le (HO2.out a ha) hc.size)
        clear hc
        go_wp2_with fail
        refine (within_any _ A c xs B d ys HA.out HC.out.1 HO.out HB.out HC.out.2 HO2.out (by have := HS.out; omega) (by have := HS.out; omega)).mono ?_
        rintro e w22 ⟨rfl, hc⟩
        rw [EW.out]
        replace C := Lib.hid (C.out.trans hc)
        replace HA := Lib.hid (HA.out.chg hc (by simp))
        replace HB := Lib.hid (HB.out.chg hc (by simp))
        replace HD := Lib.hid (HD.out.chg hc (by simp))
        replace B0 := Lib.hid (hc.at_ B0.out (by simp))
        replace HO := Lib.hid (fun a ha => Nat.lt_of_lt_of_le (HO.out a ha) hc.size)
        replace HO2 := Lib.hid (fun a ha => Nat.lt_of_lt_of_le (HO2.out a ha) hc.size)
        clear hc
        go_wp2
        go_ret
        exact ⟨(by first | rfl | simp), C.out⟩
      obtain ⟨j1, j2, j3, j4⟩ := join_ok e1 e2 (by have := HS.out; omega)
      obtain ⟨m1, m2, m3, m4⟩ := minus_ok e1 e2 (by have := HS.out; omega)
      obtain ⟨k1, k2, k3, k4⟩ := join_ok m2 e2 (by have := HS.out; omega)
      have nj := (wf_of_chk j2).1.1
      have nm := (wf_of_chk m2).1.1
      have nb := (wf_of_chk e2).1.1
      have ek : tidyS (ys.foldl withoutP xs ++ ys) = tidyS (xs ++ ys) := norm_ext (wf_of_chk k2).1.1 nj (fun n s => by
        rw [k4 n s, j4 n s, m4 n s]
        by_cases q : Mem ys n s
        · simp [q]
        · simp [q])
      have J1 := Lib.hid j1
      have M1 := Lib.hid m1
      have JC := Lib.hid j2
      have MC := Lib.hid m2
      have KJ : Hid (joinE (ys.foldl withoutP xs) ys = (0, tidyS (xs ++ ys))) := Lib.hid (by rw [k1, ek])
      have EJ : Hid (hasE (tidyS (xs ++ ys)) n s = (hasE xs n s || hasE ys n s)) := Lib.hid (by
        rw [has_iff j2, has_iff e1, has_iff e2, ← Bool.decide_or]
        exact decide_eq_decide.2 (j4 n s))
      have EM : Hid (hasE (ys.foldl withoutP xs) n s = (hasE xs n s && !hasE ys n s)) := Lib.hid (by
        rw [has_iff m2, has_iff e1, has_iff e2, ← decide_not, ← Bool.decide_and]
        exact decide_eq_decide.2 (m4 n s))
      have WM := Lib.hid (within_len e1 e2)
      have V1 := Lib.hid (within_yes e1 j2 (fun n s q => (j4 n s).2 (.inl q)))
      have V2 := Lib.hid (within_yes e2 j2 (fun n s q => (j4 n s).2 (.inr q)))
      have V3 := Lib.hid (within_yes m2 e1 (fun n s q => ((m4 n s).1 q).1))
      have cwf := fin_of (wf_of_chk e2).1
      obtain ⟨cm, hcm⟩ : ∃ v : Int, cntL (ys.foldl withoutP xs) = v := ⟨_, rfl⟩
      obtain ⟨cb, hcb⟩ : ∃ v : Int, cntL ys = v := ⟨_, rfl⟩
      obtain ⟨cj, hcj⟩ : ∃ v : Int, cntL (tidyS (xs ++ ys)) = v := ⟨_, rfl⟩
      have CM : Hid ((if chkS (ys.foldl withoutP xs) = 0 then cntL (ys.foldl withoutP xs) else 0) = cm) := Lib.hid (by rw [if_pos m2, hcm])
      have CB : Hid ((if chkS ys = 0 then cntL ys else 0) = cb) := Lib.hid (by rw [if_pos e2, hcb])
      have CJ : Hid ((if chkS (tidyS (xs ++ ys)) = 0 then cntL (tidyS (xs ++ ys)) else 0) = cj) := Lib.hid (by rw [if_pos j2, hcj])
      have hsum : cm + cb = cj := by
        rw [← hcm, ← hcb, ← hcj]
        exact cnt_union nm nb nj (fun n s q => ((m4 n s).1 q).2) (fun n s => by
          rw [j4 n s, m4 n s]
          by_cases q : Mem ys n s
          · simp [q]
          · simp [q])
      have bj := cnt_small 4000 _ (fin_of (wf_of_chk j2).1) (by have := HS.out; omega)
      rw [hcj] at bj
      have CW : Hid (IntKind.i64.wrap (cm + cb) = cj) := Lib.hid (by rw [hsum]; exact IntWalk.i64_in _ (by omega))
      have CE : Hid ((cj == cj) = true) := Lib.hid (by simp)
      have JL : Hid ((tidyS (xs ++ ys)).length ≤ 400) := Lib.hid (by have := HS.out; omega)
      have ML : Hid ((ys.foldl withoutP xs).length ≤ 400) := Lib.hid (by have := HS.out; omega)
      clear j1 j2 j3 j4 m1 m2 m3 m4 k1 k2 k3 k4 nj nm nb ek cwf hcm hcb hcj hsum bj
      go_wp2_with fail
      refine (pacheck_any _ A _ c xs HA.out (by have := HS.out; omega)).mono ?_
      rintro e w20 ⟨rfl, hc⟩
      rw [e1]
      replace C := Lib.hid (C.out.trans hc)
      replace HA := Lib.hid (HA.out.chg hc (by simp))
      replace HB := Lib.hid (HB.out.chg hc (by simp))
      replace HD := Lib.hid (HD.out.chg hc (by simp))
      replace B0 := Lib.hid (hc.at_ B0.out (by simp))
      replace HO := Lib.hid (fun a ha => Nat.lt_of_lt_of_le (HO.out a ha) hc.size)
      replace HO2 := Lib.hid (fun a ha => Nat.lt_of_lt_of_le (HO2.out a ha) hc.size)
      clear hc
      go_wp2_with fail
      refine (pacheck_any _ B _ d ys HB.out (by have := HS.out; omega)).mono ?_
      rintro e w21 ⟨rfl, hc⟩
      rw [e2]
      replace C := Lib.hid (C.out.trans hc)
      replace HA := Lib.hid (HA.out.chg hc (by simp))
      replace HB := Lib.hid (HB.out.chg hc (by simp))
      replace HD := Lib.hid (HD.out.chg hc (by simp))
      replace B0 := Lib.hid (hc.at_ B0.out (by simp))
      replace HO := Lib.hid (fun a ha => Nat.lt_of_lt_of_le (HO.out a ha) hc.size)
      replace HO2 := Lib.hid (fun a ha => Nat.lt_of_lt_of_le (HO2.out a ha) hc.size)
      clear hc e1 e2
      go_wp2_with fail
      refine (join_any _ A c xs B d ys HA.out HC.out.1 HO.out HB.out HC.out.2 HO2.out (by have := HS.out; omega) (by have := HS.out; omega)).mono ?_
      rintro e w22 ⟨AJ, cJ, rfl, hO, hN, hc⟩
      rw [J1.out] at hO ⊢
      dsimp only at hO ⊢
      replace C := Lib.hid (C.out.trans hc)
      replace HA := Lib.hid (HA.out.chg hc (by simp))
      replace HB := Lib.hid (HB.out.chg hc (by simp))
      replace HD := Lib.hid (HD.out.chg hc (by simp))
      replace B0 := Lib.hid (hc.at_ B0.out (by simp))
      replace HO := Lib.hid (fun a ha => Nat.lt_of_lt_of_le (HO.out a ha) hc.size)
      replace HO2 := Lib.hid (fun a ha => Nat.lt_of_lt_of_le (HO2.out a ha) hc.size)
      have FJ := Lib.hid hO
      clear hO hN hc
      go_wp2_with fail
      refine (minus_any _ A c xs B d ys HA.out HC.out.1 HO.out HB.out HC.out.2 HO2.out (by have := HS.out; omega) (by have := HS.out; omega)).mono ?_
      rintro e w23 ⟨AM, cM, rfl, hO, hN, hc⟩
      rw [M1.out] at hO ⊢
      dsimp only at hO ⊢
      replace C := Lib.hid (C.out.trans hc)
      replace HA := Lib.hid (HA.out.chg hc (by simp))
      replace HB := Lib.hid (HB.out.chg hc (by simp))
      replace HD := Lib.hid (HD.out.chg hc (by simp))
      replace B0 := Lib.hid (hc.at_ B0.out (by simp))
      replace HO := Lib.hid (fun a ha => Nat.lt_of_lt_of_le (HO.out a ha) hc.size)
      replace HO2 := Lib.hid (fun a ha => Nat.lt_of_lt_of_le (HO2.out a ha) hc.size)
      replace FJ := Lib.hid (FJ.out.chg hc (by simp))
      have FM := Lib.hid hO
      clear hO hN hc J1 M1
      generalize tidyS (xs ++ ys) = J at *
      generalize ys.foldl withoutP xs = M at *
      go_wp2_with fail
      refine (pacheck_any _ AJ _ cJ J FJ.out.reads (by have := JL.out; omega)).mono ?_
      rintro e w24 ⟨rfl, hc⟩
      rw [JC.out]
      replace C := Lib.hid (C.out.trans hc)
      replace HA := Lib.hid (HA.out.chg hc (by simp))
      replace HB := Lib.hid (HB.out.chg hc (by simp))
      replace HD := Lib.hid (HD.out.chg hc (by simp))
      replace B0 := Lib.hid (hc.at_ B0.out (by simp))
      replace HO := Lib.hid (fun a ha => Nat.lt_of_lt_of_le (HO.out a ha) hc.size)
      replace HO2 := Lib.hid (fun a ha => Nat.lt_of_lt_of_le (HO2.out a ha) hc.size)
      replace FJ := Lib.hid (FJ.out.chg hc (by simp))
      replace FM := Lib.hid (FM.out.chg hc (by simp))
      clear hc
      go_wp2_with fail
      refine (pacheck_any _ AM _ cM M FM.out.reads (by have := ML.out; omega)).mono ?_
      rintro e w25 ⟨rfl, hc⟩
      rw [MC.out]
      replace C := Lib.hid (C.out.trans hc)
      replace HA := Lib.hid (HA.out.chg hc (by simp))
      replace HB := Lib.hid (HB.out.chg hc (by simp))
      replace HD := Lib.hid (HD.out.chg hc (by simp))
      replace B0 := Lib.hid (hc.at_ B0.out (by simp))
      replace HO := Lib.hid (fun a ha => Nat.lt_of_lt_of_le (HO.out a ha) hc.size)
      replace HO2 := Lib.hid (fun a ha => Nat.lt_of_lt_of_le (HO2.out a ha) hc.size)
      replace FJ := Lib.hid (FJ.out.chg hc (by simp))
      replace FM := Lib.hid (FM.out.chg hc (by simp))
      clear hc
      have y0 := cell_of B0.out 0
      have y1 := cell_of B0.out 1
      simp only [List.getElem?_toArray, List.getElem?_cons_succ, List.getElem?_cons_zero] at y0 y1
      go_upto_region 19 with fail
      refine wp_region_held_drew (S := fun w' => w'.cell? ⟨g0, 0, none⟩ = some (.int .i64 n) ∧ w'.cell? ⟨g0, 1, none⟩ = some (.int .i64 s)) (by kernel_rfl) ⟨y0, y1⟩ (fun hHeld => ?_)
      have CD := Lib.hid (Chg.refl [] w25).drew
      clear y0 y1 hHeld
      replace C := Lib.hid (C.out.trans CD.out)
      replace HA := Lib.hid (HA.out.chg CD.out (by simp))
      replace HB := Lib.hid (HB.out.chg CD.out (by simp))
      replace HD := Lib.hid (HD.out.chg CD.out (by simp))
      replace B0 := Lib.hid (CD.out.at_ B0.out (by simp))
      replace HO := Lib.hid (fun a ha => Nat.lt_of_lt_of_le (HO.out a ha) CD.out.size)
      replace HO2 := Lib.hid (fun a ha => Nat.lt_of_lt_of_le (HO2.out a ha) CD.out.size)
      replace FJ := Lib.hid (FJ.out.chg CD.out (by simp))
      replace FM := Lib.hid (FM.out.chg CD.out (by simp))
      clear CD
      generalize w25.drew = w26 at *
      have DX : Hid (∀ w', Chg [] w26 w' → w'.cell? ⟨g0, 0, none⟩ = some (.int .i64 n) ∧ w'.cell? ⟨g0, 1, none⟩ = some (.int .i64 s)) := Lib.hid (fun w' hc => by
        have b := hc.at_ B0.out (by simp)
        exact ⟨cell_of b 0, cell_of b 1⟩)
      obtain ⟨wc, hwc⟩ : ∃ wc, w26 = wc := ⟨_, rfl⟩
      have CC : Hid (Chg [] w26 wc) := Lib.hid (hwc ▸ Chg.refl [] w26)
      rw [hwc]
      clear hwc
      refine sy 0 116 rfl rfl ?_ (hS := (DX.out _ CC.out))
      try simp only [Act.put, sA, s0, s1]
      refine sy 1 117 rfl rfl ?_ (hS := (DX.out _ CC.out)) (hy := by (intro w hSw; (try dsimp only at hSw); obtain ⟨q0, q1⟩ := hSw; go_simp; try with_reducible rfl))
      try simp only [Act.put, sA, s0, s1]
      refine sy 3 119 rfl rfl ?_ (hS := (DX.out _ CC.out))
      try simp only [Act.put, sA, s0, s1]
      refine sy 4 120 rfl rfl ?_ (hS := (DX.out _ CC.out)) (hy := by (intro w hSw; (try dsimp only at hSw); obtain ⟨q0, q1⟩ := hSw; go_simp; try with_reducible rfl))
      try simp only [Act.put, sA, s0, s1]
      refine wpAnyH_ready (rs := [2]) (by kernel_rfl) (by simp) ?_
      refine AllReadyH.cons rfl (fun K hK => ?_) AllReadyH.nil
      replace hK := Lib.hid hK
      go_simp
      refine (has_any _ A c xs n s (HA.out.chg CC.out (by simp)) (by have := HS.out; omega)).mono ?_
      rintro e wc ⟨rfl, hc⟩
      replace CC := Lib.hid (CC.out.trans hc)
      clear hc
      refine hK.out _ _ (DX.out _ CC.out) (fun hHeld => ?_)
      clear hK K
      try simp only [Act.put, sA, s0, s1]
      refine wpAnyH_ready (rs := [5]) (by kernel_rfl) (by simp) ?_
      refine AllReadyH.cons rfl (fun K hK => ?_) AllReadyH.nil
      replace hK := Lib.hid hK
      go_simp
      refine (has_any _ B d ys n s (HB.out.chg CC.out (by simp)) (by have := HS.out; omega)).mono ?_
      rintro e wc ⟨rfl, hc⟩
      replace CC := Lib.hid (CC.out.trans hc)
      clear hc
      refine hK.out _ _ (DX.out _ CC.out) (fun hHeld => ?_)
      clear hK K
      try simp only [Act.put, sA, s0, s1]
      refine sy 6 17 rfl rfl ?_ (hS := (DX.out _ CC.out))
      try simp only [Act.put, sA, s0, s1]
      refine sy 7 18 rfl rfl ?_ (hS := (DX.out _ CC.out))
      try simp only [Act.put, sA, s0, s1]
      refine wpAnyH_done (by kernel_rfl) ?_ _
      clear hHeld
      replace C := Lib.hid (C.out.trans CC.out)
      replace HA := Lib.hid (HA.out.chg CC.out (by simp))
      replace HB := Lib.hid (HB.out.chg CC.out (by simp))
      replace HD := Lib.hid (HD.out.chg CC.out (by simp))
      replace B0 := Lib.hid (CC.out.at_ B0.out (by simp))
      replace HO := Lib.hid (fun a ha => Nat.lt_of_lt_of_le (HO.out a ha) CC.out.size)
      replace HO2 := Lib.hid (fun a ha => Nat.lt_of_lt_of_le (HO2.out a ha) CC.out.size)
      replace FJ := Lib.hid (FJ.out.chg CC.out (by simp))
      replace FM := Lib.hid (FM.out.chg CC.out (by simp))
      clear CC DX
      rcases hi : hasE xs n s with _ | _
      all_goals rcases hb : hasE ys n s with _ | _
      · skip
        have y0 := cell_of B0.out 0
        have y1 := cell_of B0.out 1
        simp only [List.getElem?_toArray, List.getElem?_cons_succ, List.getElem?_cons_zero] at y0 y1
        go_wp2_with fail
        refine (has_any _ AJ cJ J n s FJ.out.reads (by have := JL.out; omega)).mono ?_
        rintro e w30 ⟨rfl, hc⟩
        rw [show hasE J n s = false by rw [EJ.out, hi, hb]; rfl]
        clear y0 y1
        replace C := Lib.hid (C.out.trans hc)
        replace HA := Lib.hid (HA.out.chg hc (by simp))
        replace HB := Lib.hid (HB.out.chg hc (by simp))
        replace HD := Lib.hid (HD.out.chg hc (by simp))
        replace B0 := Lib.hid (hc.at_ B0.out (by simp))
        replace HO := Lib.hid (fun a ha => Nat.lt_of_lt_of_le (HO.out a ha) hc.size)
        replace HO2 := Lib.hid (fun a ha => Nat.lt_of_lt_of_le (HO2.out a ha) hc.size)
        replace FJ := Lib.hid (FJ.out.chg hc (by simp))
        replace FM := Lib.hid (FM.out.chg hc (by simp))
        clear hc
        have y0 := cell_of B0.out 0
        have y1 := cell_of B0.out 1
        simp only [List.getElem?_toArray, List.getElem?_cons_succ, List.getElem?_cons_zero] at y0 y1
        go_wp2_with fail
        refine (has_any _ AM cM M n s FM.out.reads (by have := ML.out; omega)).mono ?_
        rintro e w31 ⟨rfl, hc⟩
        rw [show hasE M n s = false by rw [EM.out, hi, hb]; rfl]
        clear y0 y1
        replace C := Lib.hid (C.out.trans hc)
        replace HA := Lib.hid (HA.out.chg hc (by simp))
        replace HB := Lib.hid (HB.out.chg hc (by simp))
        replace HD := Lib.hid (HD.out.chg hc (by simp))
        replace B0 := Lib.hid (hc.at_ B0.out (by simp))
        replace HO := Lib.hid (fun a ha => Nat.lt_of_lt_of_le (HO.out a ha) hc.size)
        replace HO2 := Lib.hid (fun a ha => Nat.lt_of_lt_of_le (HO2.out a ha) hc.size)
        replace FJ := Lib.hid (FJ.out.chg hc (by simp))
        replace FM := Lib.hid (FM.out.chg hc (by simp))
        clear hc EJ EM hi hb
        go_wp2_with fail
        refine (within_any _ A c xs B d ys HA.out HC.out.1 HO.out HB.out HC.out.2 HO2.out (by have := HS.out; omega) (by have := HS.out; omega)).mono ?_
        rintro e w32 ⟨rfl, hc⟩
        rw [WM.out]
        replace C := Lib.hid (C.out.trans hc)
        replace HA := Lib.hid (HA.out.chg hc (by simp))
        replace HB := Lib.hid (HB.out.chg hc (by simp))
        replace HD := Lib.hid (HD.out.chg hc (by simp))
        replace B0 := Lib.hid (hc.at_ B0.out (by simp))
        replace HO := Lib.hid (fun a ha => Nat.lt_of_lt_of_le (HO.out a ha) hc.size)
        replace HO2 := Lib.hid (fun a ha => Nat.lt_of_lt_of_le (HO2.out a ha) hc.size)
        replace FJ := Lib.hid (FJ.out.chg hc (by simp))
        replace FM := Lib.hid (FM.out.chg hc (by simp))
        clear hc
        by_cases hz : M.length = 0
        rotate_left
        · skip
          have hz2 : ((M.length : Int) == 0) = false := beq_eq_false_iff_ne.2 (by omega)
          have hz3 := decide_eq_false hz
          rw [hz3]
          clear hz hz3
          go_wp2_with fail
          refine (within_any _ A c xs AJ cJ J HA.out HC.out.1 HO.out FJ.out.reads FJ.out.cap FJ.out.lt_ (by have := HS.out; omega) (by have := JL.out; omega)).mono ?_
          rintro e w33 ⟨rfl, hc⟩
          rw [V1.out]
          replace C := Lib.hid (C.out.trans hc)
          replace HA := Lib.hid (HA.out.chg hc (by simp))
          replace HB := Lib.hid (HB.out.chg hc (by simp))
          replace HD := Lib.hid (HD.out.chg hc (by simp))
          replace B0 := Lib.hid (hc.at_ B0.out (by simp))
          replace HO := Lib.hid (fun a ha => Nat.lt_of_lt_of_le (HO.out a ha) hc.size)
          replace HO2 := Lib.hid (fun a ha => Nat.lt_of_lt_of_le (HO2.out a ha) hc.size)
          replace FJ := Lib.hid (FJ.out.chg hc (by simp))
          replace FM := Lib.hid (FM.out.chg hc (by simp))
          clear hc
          go_wp2_with fail
          refine (within_any _ B d ys AJ cJ J HB.out HC.out.2 HO2.out FJ.out.reads FJ.out.cap FJ.out.lt_ (by have := HS.out; omega) (by have := JL.out; omega)).mono ?_
          rintro e w34 ⟨rfl, hc⟩
          rw [V2.out]
          replace C := Lib.hid (C.out.trans hc)
          replace HA := Lib.hid (HA.out.chg hc (by simp))
          replace HB := Lib.hid (HB.out.chg hc (by simp))
          replace HD := Lib.hid (HD.out.chg hc (by simp))
          replace B0 := Lib.hid (hc.at_ B0.out (by simp))
          replace HO := Lib.hid (fun a ha => Nat.lt_of_lt_of_le (HO.out a ha) hc.size)
          replace HO2 := Lib.hid (fun a ha => Nat.lt_of_lt_of_le (HO2.out a ha) hc.size)
          replace FJ := Lib.hid (FJ.out.chg hc (by simp))
          replace FM := Lib.hid (FM.out.chg hc (by simp))
          clear hc
          go_wp2_with fail
          refine (within_any _ AM cM M A c xs FM.out.reads FM.out.cap FM.out.lt_ HA.out HC.out.1 HO.out (by have := ML.out; omega) (by have := HS.out; omega)).mono ?_
          rintro e w35 ⟨rfl, hc⟩
          rw [V3.out]
          replace C := Lib.hid (C.out.trans hc)
          replace HA := Lib.hid (HA.out.chg hc (by simp))
          replace HB := Lib.hid (HB.out.chg hc (by simp))
          replace HD := Lib.hid (HD.out.chg hc (by simp))
          replace B0 := Lib.hid (hc.at_ B0.out (by simp))
          replace HO := Lib.hid (fun a ha => Nat.lt_of_lt_of_le (HO.out a ha) hc.size)
          replace HO2 := Lib.hid (fun a ha => Nat.lt_of_lt_of_le (HO2.out a ha) hc.size)
          replace FJ := Lib.hid (FJ.out.chg hc (by simp))
          replace FM := Lib.hid (FM.out.chg hc (by simp))
          clear hc hz2
          go_wp2_with fail
          refine (join_any _ AM cM M B d ys FM.out.reads FM.out.cap FM.out.lt_ HB.out HC.out.2 HO2.out (by have := ML.out; omega) (by have := HS.out; omega)).mono ?_
          rintro e w36 ⟨AK, cK, rfl, hO, hN, hc⟩
          rw [KJ.out] at hO ⊢
          dsimp only at hO ⊢
          replace C := Lib.hid (C.out.trans hc)
          replace HA := Lib.hid (HA.out.chg hc (by simp))
          replace HB := Lib.hid (HB.out.chg hc (by simp))
          replace HD := Lib.hid (HD.out.chg hc (by simp))
          replace B0 := Lib.hid (hc.at_ B0.out (by simp))
          replace HO := Lib.hid (fun a ha => Nat.lt_of_lt_of_le (HO.out a ha) hc.size)
          replace HO2 := Lib.hid (fun a ha => Nat.lt_of_lt_of_le (HO2.out a ha) hc.size)
          replace FJ := Lib.hid (FJ.out.chg hc (by simp))
          replace FM := Lib.hid (FM.out.chg hc (by simp))
          have FK := Lib.hid hO
          clear hO hN hc
          go_wp2_with fail
          refine (samespan_any _ AK AJ _ _ cK cJ J J FK.out.reads FJ.out.reads (by have := JL.out; omega) (by have := JL.out; omega)).mono ?_
          rintro e w37 ⟨rfl, hc⟩
          rw [show (J == J) = true by simp]
          replace C := Lib.hid (C.out.trans hc)
          replace HA := Lib.hid (HA.out.chg hc (by simp))
          replace HB := Lib.hid (HB.out.chg hc (by simp))
          replace HD := Lib.hid (HD.out.chg hc (by simp))
          replace B0 := Lib.hid (hc.at_ B0.out (by simp))
          replace HO := Lib.hid (fun a ha => Nat.lt_of_lt_of_le (HO.out a ha) hc.size)
          replace HO2 := Lib.hid (fun a ha => Nat.lt_of_lt_of_le (HO2.out a ha) hc.size)
          replace FJ := Lib.hid (FJ.out.chg hc (by simp))
          replace FM := Lib.hid (FM.out.chg hc (by simp))
          replace FK := Lib.hid (FK.out.chg hc (by simp))
          clear hc
          go_wp2_with fail
          refine (count_any _ AM cM M FM.out.reads (by have := ML.out; omega)).mono ?_
          rintro e w38 ⟨rfl, hc⟩
          rw [CM.out]
          replace C := Lib.hid (C.out.trans hc)
          replace HA := Lib.hid (HA.out.chg hc (by simp))
          replace HB := Lib.hid (HB.out.chg hc (by simp))
          replace HD := Lib.hid (HD.out.chg hc (by simp))
          replace B0 := Lib.hid (hc.at_ B0.out (by simp))
          replace HO := Lib.hid (fun a ha => Nat.lt_of_lt_of_le (HO.out a ha) hc.size)
          replace HO2 := Lib.hid (fun a ha => Nat.lt_of_lt_of_le (HO2.out a ha) hc.size)
          replace FJ := Lib.hid (FJ.out.chg hc (by simp))
          replace FM := Lib.hid (FM.out.chg hc (by simp))
          replace FK := Lib.hid (FK.out.chg hc (by simp))
          clear hc
          go_wp2_with fail
          refine (count_any _ B d ys HB.out (by have := HS.out; omega)).mono ?_
          rintro e w39 ⟨rfl, hc⟩
          rw [CB.out]
          replace C := Lib.hid (C.out.trans hc)
          replace HA := Lib.hid (HA.out.chg hc (by simp))
          replace HB := Lib.hid (HB.out.chg hc (by simp))
          replace HD := Lib.hid (HD.out.chg hc (by simp))
          replace B0 := Lib.hid (hc.at_ B0.out (by simp))
          replace HO := Lib.hid (fun a ha => Nat.lt_of_lt_of_le (HO.out a ha) hc.size)
          replace HO2 := Lib.hid (fun a ha => Nat.lt_of_lt_of_le (HO2.out a ha) hc.size)
          replace FJ := Lib.hid (FJ.out.chg hc (by simp))
          replace FM := Lib.hid (FM.out.chg hc (by simp))
          replace FK := Lib.hid (FK.out.chg hc (by simp))
          clear hc
          go_wp2_with fail
          refine (count_any _ AJ cJ J FJ.out.reads (by have := JL.out; omega)).mono ?_
          rintro e w40 ⟨rfl, hc⟩
          rw [CJ.out]
          replace C := Lib.hid (C.out.trans hc)
          replace HA := Lib.hid (HA.out.chg hc (by simp))
          replace HB := Lib.hid (HB.out.chg hc (by simp))
          replace HD := Lib.hid (HD.out.chg hc (by simp))
          replace B0 := Lib.hid (hc.at_ B0.out (by simp))
          replace HO := Lib.hid (fun a ha => Nat.lt_of_lt_of_le (HO.out a ha) hc.size)
          replace HO2 := Lib.hid (fun a ha => Nat.lt_of_lt_of_le (HO2.out a ha) hc.size)
          replace FJ := Lib.hid (FJ.out.chg hc (by simp))
          replace FM := Lib.hid (FM.out.chg hc (by simp))
          replace FK := Lib.hid (FK.out.chg hc (by simp))
          clear hc
          have cw := CW.out
          have ce := CE.out
          go_wp2
          go_ret
          exact ⟨(by first | rfl | (simp; done) | (simp; rw [← IntWalk.i64_left]; exact CW.out)), C.out⟩
        · skip
          have hz2 : ((M.length : Int) == 0) = true := by simpa using hz
          have hz3 := decide_eq_true hz
          rw [hz3]
          have hz4 := Lib.hid hz
          clear hz hz3
          go_wp2_with fail
          refine (within_any _ A c xs AJ cJ J HA.out HC.out.1 HO.out FJ.out.reads FJ.out.cap FJ.out.lt_ (by have := HS.out; omega) (by have := JL.out; omega)).mono ?_
          rintro e w33 ⟨rfl, hc⟩
          rw [V1.out]
          replace C := Lib.hid (C.out.trans hc)
          replace HA := Lib.hid (HA.out.chg hc (by simp))
          replace HB := Lib.hid (HB.out.chg hc (by simp))
          replace HD := Lib.hid (HD.out.chg hc (by simp))
          replace B0 := Lib.hid (hc.at_ B0.out (by simp))
          replace HO := Lib.hid (fun a ha => Nat.lt_of_lt_of_le (HO.out a ha) hc.size)
          replace HO2 := Lib.hid (fun a ha => Nat.lt_of_lt_of_le (HO2.out a ha) hc.size)
          replace FJ := Lib.hid (FJ.out.chg hc (by simp))
          replace FM := Lib.hid (FM.out.chg hc (by simp))
          clear hc
          go_wp2_with fail
          refine (within_any _ B d ys AJ cJ J HB.out HC.out.2 HO2.out FJ.out.reads FJ.out.cap FJ.out.lt_ (by have := HS.out; omega) (by have := JL.out; omega)).mono ?_
          rintro e w34 ⟨rfl, hc⟩
          rw [V2.out]
          replace C := Lib.hid (C.out.trans hc)
          replace HA := Lib.hid (HA.out.chg hc (by simp))
          replace HB := Lib.hid (HB.out.chg hc (by simp))
          replace HD := Lib.hid (HD.out.chg hc (by simp))
          replace B0 := Lib.hid (hc.at_ B0.out (by simp))
          replace HO := Lib.hid (fun a ha => Nat.lt_of_lt_of_le (HO.out a ha) hc.size)
          replace HO2 := Lib.hid (fun a ha => Nat.lt_of_lt_of_le (HO2.out a ha) hc.size)
          replace FJ := Lib.hid (FJ.out.chg hc (by simp))
          replace FM := Lib.hid (FM.out.chg hc (by simp))
          clear hc
          go_wp2_with fail
          refine (within_any _ AM cM M A c xs FM.out.reads FM.out.cap FM.out.lt_ HA.out HC.out.1 HO.out (by have := ML.out; omega) (by have := HS.out; omega)).mono ?_
          rintro e w35 ⟨rfl, hc⟩
          rw [V3.out]
          replace C := Lib.hid (C.out.trans hc)
          replace HA := Lib.hid (HA.out.chg hc (by simp))
          replace HB := Lib.hid (HB.out.chg hc (by simp))
          replace HD := Lib.hid (HD.out.chg hc (by simp))
          replace B0 := Lib.hid (hc.at_ B0.out (by simp))
          replace HO := Lib.hid (fun a ha => Nat.lt_of_lt_of_le (HO.out a ha) hc.size)
          replace HO2 := Lib.hid (fun a ha => Nat.lt_of_lt_of_le (HO2.out a ha) hc.size)
          replace FJ := Lib.hid (FJ.out.chg hc (by simp))
          replace FM := Lib.hid (FM.out.chg hc (by simp))
          clear hc hz2
          go_wp2_with fail
          refine (join_any _ AM cM M B d ys FM.out.reads FM.out.cap FM.out.lt_ HB.out HC.out.2 HO2.out (by have := ML.out; omega) (by have := HS.out; omega)).mono ?_
          rintro e w36 ⟨AK, cK, rfl, hO, hN, hc⟩
          rw [KJ.out] at hO ⊢
          dsimp only at hO ⊢
          replace C := Lib.hid (C.out.trans hc)
          replace HA := Lib.hid (HA.out.chg hc (by simp))
          replace HB := Lib.hid (HB.out.chg hc (by simp))
          replace HD := Lib.hid (HD.out.chg hc (by simp))
          replace B0 := Lib.hid (hc.at_ B0.out (by simp))
          replace HO := Lib.hid (fun a ha => Nat.lt_of_lt_of_le (HO.out a ha) hc.size)
          replace HO2 := Lib.hid (fun a ha => Nat.lt_of_lt_of_le (HO2.out a ha) hc.size)
          replace FJ := Lib.hid (FJ.out.chg hc (by simp))
          replace FM := Lib.hid (FM.out.chg hc (by simp))
          have FK := Lib.hid hO
          clear hO hN hc
          go_wp2_with fail
          refine (samespan_any _ AK AJ _ _ cK cJ J J FK.out.reads FJ.out.reads (by have := JL.out; omega) (by have := JL.out; omega)).mono ?_
          rintro e w37 ⟨rfl, hc⟩
          rw [show (J == J) = true by simp]
          replace C := Lib.hid (C.out.trans hc)
          replace HA := Lib.hid (HA.out.chg hc (by simp))
          replace HB := Lib.hid (HB.out.chg hc (by simp))
          replace HD := Lib.hid (HD.out.chg hc (by simp))
          replace B0 := Lib.hid (hc.at_ B0.out (by simp))
          replace HO := Lib.hid (fun a ha => Nat.lt_of_lt_of_le (HO.out a ha) hc.size)
          replace HO2 := Lib.hid (fun a ha => Nat.lt_of_lt_of_le (HO2.out a ha) hc.size)
          replace FJ := Lib.hid (FJ.out.chg hc (by simp))
          replace FM := Lib.hid (FM.out.chg hc (by simp))
          replace FK := Lib.hid (FK.out.chg hc (by simp))
          clear hc
          go_wp2_with fail
          refine (count_any _ AM cM M FM.out.reads (by have := ML.out; omega)).mono ?_
          rintro e w38 ⟨rfl, hc⟩
          rw [CM.out]
          replace C := Lib.hid (C.out.trans hc)
          replace HA := Lib.hid (HA.out.chg hc (by simp))
          replace HB := Lib.hid (HB.out.chg hc (by simp))
          replace HD := Lib.hid (HD.out.chg hc (by simp))
          replace B0 := Lib.hid (hc.at_ B0.out (by simp))
          replace HO := Lib.hid (fun a ha => Nat.lt_of_lt_of_le (HO.out a ha) hc.size)
          replace HO2 := Lib.hid (fun a ha => Nat.lt_of_lt_of_le (HO2.out a ha) hc.size)
          replace FJ := Lib.hid (FJ.out.chg hc (by simp))
          replace FM := Lib.hid (FM.out.chg hc (by simp))
          replace FK := Lib.hid (FK.out.chg hc (by simp))
          clear hc
          go_wp2_with fail
          refine (count_any _ B d ys HB.out (by have := HS.out; omega)).mono ?_
          rintro e w39 ⟨rfl, hc⟩
          rw [CB.out]
          replace C := Lib.hid (C.out.trans hc)
          replace HA := Lib.hid (HA.out.chg hc (by simp))
          replace HB := Lib.hid (HB.out.chg hc (by simp))
          replace HD := Lib.hid (HD.out.chg hc (by simp))
          replace B0 := Lib.hid (hc.at_ B0.out (by simp))
          replace HO := Lib.hid (fun a ha => Nat.lt_of_lt_of_le (HO.out a ha) hc.size)
          replace HO2 := Lib.hid (fun a ha => Nat.lt_of_lt_of_le (HO2.out a ha) hc.size)
          replace FJ := Lib.hid (FJ.out.chg hc (by simp))
          replace FM := Lib.hid (FM.out.chg hc (by simp))
          replace FK := Lib.hid (FK.out.chg hc (by simp))
          clear hc
          go_wp2_with fail
          refine (count_any _ AJ cJ J FJ.out.reads (by have := JL.out; omega)).mono ?_
          rintro e w40 ⟨rfl, hc⟩
          rw [CJ.out]
          replace C := Lib.hid (C.out.trans hc)
          replace HA := Lib.hid (HA.out.chg hc (by simp))
          replace HB := Lib.hid (HB.out.chg hc (by simp))
          replace HD := Lib.hid (HD.out.chg hc (by simp))
          replace B0 := Lib.hid (hc.at_ B0.out (by simp))
          replace HO := Lib.hid (fun a ha => Nat.lt_of_lt_of_le (HO.out a ha) hc.size)
          replace HO2 := Lib.hid (fun a ha => Nat.lt_of_lt_of_le (HO2.out a ha) hc.size)
          replace FJ := Lib.hid (FJ.out.chg hc (by simp))
          replace FM := Lib.hid (FM.out.chg hc (by simp))
          replace FK := Lib.hid (FK.out.chg hc (by simp))
          clear hc
          have cw := CW.out
          have ce := CE.out
          go_wp2
          go_ret
          exact ⟨(by first | rfl | (simp; done) | (simp; rw [← IntWalk.i64_left]; exact CW.out)), C.out⟩
      · skip
        have y0 := cell_of B0.out 0
        have y1 := cell_of B0.out 1
        simp only [List.getElem?_toArray, List.getElem?_cons_succ, List.getElem?_cons_zero] at y0 y1
        go_wp2_with fail
        refine (has_any _ AJ cJ J n s FJ.out.reads (by have := JL.out; omega)).mono ?_
        rintro e w30 ⟨rfl, hc⟩
        rw [show hasE J n s = true by rw [EJ.out, hi, hb]; rfl]
        clear y0 y1
        replace C := Lib.hid (C.out.trans hc)
        replace HA := Lib.hid (HA.out.chg hc (by simp))
        replace HB := Lib.hid (HB.out.chg hc (by simp))
        replace HD := Lib.hid (HD.out.chg hc (by simp))
        replace B0 := Lib.hid (hc.at_ B0.out (by simp))
        replace HO := Lib.hid (fun a ha => Nat.lt_of_lt_of_le (HO.out a ha) hc.size)
        replace HO2 := Lib.hid (fun a ha => Nat.lt_of_lt_of_le (HO2.out a ha) hc.size)
        replace FJ := Lib.hid (FJ.out.chg hc (by simp))
        replace FM := Lib.hid (FM.out.chg hc (by simp))
        clear hc
        have y0 := cell_of B0.out 0
        have y1 := cell_of B0.out 1
        simp only [List.getElem?_toArray, List.getElem?_cons_succ, List.getElem?_cons_zero] at y0 y1
        go_wp2_with fail
        refine (has_any _ AM cM M n s FM.out.reads (by have := ML.out; omega)).mono ?_
        rintro e w31 ⟨rfl, hc⟩
        rw [show hasE M n s = false by rw [EM.out, hi, hb]; rfl]
        clear y0 y1
        replace C := Lib.hid (C.out.trans hc)
        replace HA := Lib.hid (HA.out.chg hc (by simp))
        replace HB := Lib.hid (HB.out.chg hc (by simp))
        replace HD := Lib.hid (HD.out.chg hc (by simp))
        replace B0 := Lib.hid (hc.at_ B0.out (by simp))
        replace HO := Lib.hid (fun a ha => Nat.lt_of_lt_of_le (HO.out a ha) hc.size)
        replace HO2 := Lib.hid (fun a ha => Nat.lt_of_lt_of_le (HO2.out a ha) hc.size)
        replace FJ := Lib.hid (FJ.out.chg hc (by simp))
        replace FM := Lib.hid (FM.out.chg hc (by simp))
        clear hc EJ EM hi hb
        go_wp2_with fail
        refine (within_any _ A c xs B d ys HA.out HC.out.1 HO.out HB.out HC.out.2 HO2.out (by have := HS.out; omega) (by have := HS.out; omega)).mono ?_
        rintro e w32 ⟨rfl, hc⟩
        rw [WM.out]
        replace C := Lib.hid (C.out.trans hc)
        replace HA := Lib.hid (HA.out.chg hc (by simp))
        replace HB := Lib.hid (HB.out.chg hc (by simp))
        replace HD := Lib.hid (HD.out.chg hc (by simp))
        replace B0 := Lib.hid (hc.at_ B0.out (by simp))
        replace HO := Lib.hid (fun a ha => Nat.lt_of_lt_of_le (HO.out a ha) hc.size)
        replace HO2 := Lib.hid (fun a ha => Nat.lt_of_lt_of_le (HO2.out a ha) hc.size)
        replace FJ := Lib.hid (FJ.out.chg hc (by simp))
        replace FM := Lib.hid (FM.out.chg hc (by simp))
        clear hc
        by_cases hz : M.length = 0
        rotate_left
        · skip
          have hz2 : ((M.length : Int) == 0) = false := beq_eq_false_iff_ne.2 (by omega)
          have hz3 := decide_eq_false hz
          rw [hz3]
          clear hz hz3
          go_wp2_with fail
          refine (within_any _ A c xs AJ cJ J HA.out HC.out.1 HO.out FJ.out.reads FJ.out.cap FJ.out.lt_ (by have := HS.out; omega) (by have := JL.out; omega)).mono ?_
          rintro e w33 ⟨rfl, hc⟩
          rw [V1.out]
          replace C := Lib.hid (C.out.trans hc)
          replace HA := Lib.hid (HA.out.chg hc (by simp))
          replace HB := Lib.hid (HB.out.chg hc (by simp))
          replace HD := Lib.hid (HD.out.chg hc (by simp))
          replace B0 := Lib.hid (hc.at_ B0.out (by simp))
          replace HO := Lib.hid (fun a ha => Nat.lt_of_lt_of_le (HO.out a ha) hc.size)
          replace HO2 := Lib.hid (fun a ha => Nat.lt_of_lt_of_le (HO2.out a ha) hc.size)
          replace FJ := Lib.hid (FJ.out.chg hc (by simp))
          replace FM := Lib.hid (FM.out.chg hc (by simp))
          clear hc
          go_wp2_with fail
          refine (within_any _ B d ys AJ cJ J HB.out HC.out.2 HO2.out FJ.out.reads FJ.out.cap FJ.out.lt_ (by have := HS.out; omega) (by have := JL.out; omega)).mono ?_
          rintro e w34 ⟨rfl, hc⟩
          rw [V2.out]
          replace C := Lib.hid (C.out.trans hc)
          replace HA := Lib.hid (HA.out.chg hc (by simp))
          replace HB := Lib.hid (HB.out.chg hc (by simp))
          replace HD := Lib.hid (HD.out.chg hc (by simp))
          replace B0 := Lib.hid (hc.at_ B0.out (by simp))
          replace HO := Lib.hid (fun a ha => Nat.lt_of_lt_of_le (HO.out a ha) hc.size)
          replace HO2 := Lib.hid (fun a ha => Nat.lt_of_lt_of_le (HO2.out a ha) hc.size)
          replace FJ := Lib.hid (FJ.out.chg hc (by simp))
          replace FM := Lib.hid (FM.out.chg hc (by simp))
          clear hc
          go_wp2_with fail
          refine (within_any _ AM cM M A c xs FM.out.reads FM.out.cap FM.out.lt_ HA.out HC.out.1 HO.out (by have := ML.out; omega) (by have := HS.out; omega)).mono ?_
          rintro e w35 ⟨rfl, hc⟩
          rw [V3.out]
          replace C := Lib.hid (C.out.trans hc)
          replace HA := Lib.hid (HA.out.chg hc (by simp))
          replace HB := Lib.hid (HB.out.chg hc (by simp))
          replace HD := Lib.hid (HD.out.chg hc (by simp))
          replace B0 := Lib.hid (hc.at_ B0.out (by simp))
          replace HO := Lib.hid (fun a ha => Nat.lt_of_lt_of_le (HO.out a ha) hc.size)
          replace HO2 := Lib.hid (fun a ha => Nat.lt_of_lt_of_le (HO2.out a ha) hc.size)
          replace FJ := Lib.hid (FJ.out.chg hc (by simp))
          replace FM := Lib.hid (FM.out.chg hc (by simp))
          clear hc hz2
          go_wp2_with fail
          refine (join_any _ AM cM M B d ys FM.out.reads FM.out.cap FM.out.lt_ HB.out HC.out.2 HO2.out (by have := ML.out; omega) (by have := HS.out; omega)).mono ?_
          rintro e w36 ⟨AK, cK, rfl, hO, hN, hc⟩
          rw [KJ.out] at hO ⊢
          dsimp only at hO ⊢
          replace C := Lib.hid (C.out.trans hc)
          replace HA := Lib.hid (HA.out.chg hc (by simp))
          replace HB := Lib.hid (HB.out.chg hc (by simp))
          replace HD := Lib.hid (HD.out.chg hc (by simp))
          replace B0 := Lib.hid (hc.at_ B0.out (by simp))
          replace HO := Lib.hid (fun a ha => Nat.lt_of_lt_of_le (HO.out a ha) hc.size)
          replace HO2 := Lib.hid (fun a ha => Nat.lt_of_lt_of_le (HO2.out a ha) hc.size)
          replace FJ := Lib.hid (FJ.out.chg hc (by simp))
          replace FM := Lib.hid (FM.out.chg hc (by simp))
          have FK := Lib.hid hO
          clear hO hN hc
          go_wp2_with fail
          refine (samespan_any _ AK AJ _ _ cK cJ J J FK.out.reads FJ.out.reads (by have := JL.out; omega) (by have := JL.out; omega)).mono ?_
          rintro e w37 ⟨rfl, hc⟩
          rw [show (J == J) = true by simp]
          replace C := Lib.hid (C.out.trans hc)
          replace HA := Lib.hid (HA.out.chg hc (by simp))
          replace HB := Lib.hid (HB.out.chg hc (by simp))
          replace HD := Lib.hid (HD.out.chg hc (by simp))
          replace B0 := Lib.hid (hc.at_ B0.out (by simp))
          replace HO := Lib.hid (fun a ha => Nat.lt_of_lt_of_le (HO.out a ha) hc.size)
          replace HO2 := Lib.hid (fun a ha => Nat.lt_of_lt_of_le (HO2.out a ha) hc.size)
          replace FJ := Lib.hid (FJ.out.chg hc (by simp))
          replace FM := Lib.hid (FM.out.chg hc (by simp))
          replace FK := Lib.hid (FK.out.chg hc (by simp))
          clear hc
          go_wp2_with fail
          refine (count_any _ AM cM M FM.out.reads (by have := ML.out; omega)).mono ?_
          rintro e w38 ⟨rfl, hc⟩
          rw [CM.out]
          replace C := Lib.hid (C.out.trans hc)
          replace HA := Lib.hid (HA.out.chg hc (by simp))
          replace HB := Lib.hid (HB.out.chg hc (by simp))
          replace HD := Lib.hid (HD.out.chg hc (by simp))
          replace B0 := Lib.hid (hc.at_ B0.out (by simp))
          replace HO := Lib.hid (fun a ha => Nat.lt_of_lt_of_le (HO.out a ha) hc.size)
          replace HO2 := Lib.hid (fun a ha => Nat.lt_of_lt_of_le (HO2.out a ha) hc.size)
          replace FJ := Lib.hid (FJ.out.chg hc (by simp))
          replace FM := Lib.hid (FM.out.chg hc (by simp))
          replace FK := Lib.hid (FK.out.chg hc (by simp))
          clear hc
          go_wp2_with fail
          refine (count_any _ B d ys HB.out (by have := HS.out; omega)).mono ?_
          rintro e w39 ⟨rfl, hc⟩
          rw [CB.out]
          replace C := Lib.hid (C.out.trans hc)
          replace HA := Lib.hid (HA.out.chg hc (by simp))
          replace HB := Lib.hid (HB.out.chg hc (by simp))
          replace HD := Lib.hid (HD.out.chg hc (by simp))
          replace B0 := Lib.hid (hc.at_ B0.out (by simp))
          replace HO := Lib.hid (fun a ha => Nat.lt_of_lt_of_le (HO.out a ha) hc.size)
          replace HO2 := Lib.hid (fun a ha => Nat.lt_of_lt_of_le (HO2.out a ha) hc.size)
          replace FJ := Lib.hid (FJ.out.chg hc (by simp))
          replace FM := Lib.hid (FM.out.chg hc (by simp))
          replace FK := Lib.hid (FK.out.chg hc (by simp))
          clear hc
          go_wp2_with fail
          refine (count_any _ AJ cJ J FJ.out.reads (by have := JL.out; omega)).mono ?_
          rintro e w40 ⟨rfl, hc⟩
          rw [CJ.out]
          replace C := Lib.hid (C.out.trans hc)
          replace HA := Lib.hid (HA.out.chg hc (by simp))
          replace HB := Lib.hid (HB.out.chg hc (by simp))
          replace HD := Lib.hid (HD.out.chg hc (by simp))
          replace B0 := Lib.hid (hc.at_ B0.out (by simp))
          replace HO := Lib.hid (fun a ha => Nat.lt_of_lt_of_le (HO.out a ha) hc.size)
          replace HO2 := Lib.hid (fun a ha => Nat.lt_of_lt_of_le (HO2.out a ha) hc.size)
          replace FJ := Lib.hid (FJ.out.chg hc (by simp))
          replace FM := Lib.hid (FM.out.chg hc (by simp))
          replace FK := Lib.hid (FK.out.chg hc (by simp))
          clear hc
          have cw := CW.out
          have ce := CE.out
          go_wp2
          go_ret
          exact ⟨(by first | rfl | (simp; done) | (simp; rw [← IntWalk.i64_left]; exact CW.out)), C.out⟩
        · skip
          have hz2 : ((M.length : Int) == 0) = true := by simpa using hz
          have hz3 := decide_eq_true hz
          rw [hz3]
          have hz4 := Lib.hid hz
          clear hz hz3
          go_wp2_with fail
          refine (within_any _ A c xs AJ cJ J HA.out HC.out.1 HO.out FJ.out.reads FJ.out.cap FJ.out.lt_ (by have := HS.out; omega) (by have := JL.out; omega)).mono ?_
          rintro e w33 ⟨rfl, hc⟩
          rw [V1.out]
          replace C := Lib.hid (C.out.trans hc)
          replace HA := Lib.hid (HA.out.chg hc (by simp))
          replace HB := Lib.hid (HB.out.chg hc (by simp))
          replace HD := Lib.hid (HD.out.chg hc (by simp))
          replace B0 := Lib.hid (hc.at_ B0.out (by simp))
          replace HO := Lib.hid (fun a ha => Nat.lt_of_lt_of_le (HO.out a ha) hc.size)
          replace HO2 := Lib.hid (fun a ha => Nat.lt_of_lt_of_le (HO2.out a ha) hc.size)
          replace FJ := Lib.hid (FJ.out.chg hc (by simp))
          replace FM := Lib.hid (FM.out.chg hc (by simp))
          clear hc
          go_wp2_with fail
          refine (within_any _ B d ys AJ cJ J HB.out HC.out.2 HO2.out FJ.out.reads FJ.out.cap FJ.out.lt_ (by have := HS.out; omega) (by have := JL.out; omega)).mono ?_
          rintro e w34 ⟨rfl, hc⟩
          rw [V2.out]
          replace C := Lib.hid (C.out.trans hc)
          replace HA := Lib.hid (HA.out.chg hc (by simp))
          replace HB := Lib.hid (HB.out.chg hc (by simp))
          replace HD := Lib.hid (HD.out.chg hc (by simp))
          replace B0 := Lib.hid (hc.at_ B0.out (by simp))
          replace HO := Lib.hid (fun a ha => Nat.lt_of_lt_of_le (HO.out a ha) hc.size)
          replace HO2 := Lib.hid (fun a ha => Nat.lt_of_lt_of_le (HO2.out a ha) hc.size)
          replace FJ := Lib.hid (FJ.out.chg hc (by simp))
          replace FM := Lib.hid (FM.out.chg hc (by simp))
          clear hc
          go_wp2_with fail
          refine (within_any _ AM cM M A c xs FM.out.reads FM.out.cap FM.out.lt_ HA.out HC.out.1 HO.out (by have := ML.out; omega) (by have := HS.out; omega)).mono ?_
          rintro e w35 ⟨rfl, hc⟩
          rw [V3.out]
          replace C := Lib.hid (C.out.trans hc)
          replace HA := Lib.hid (HA.out.chg hc (by simp))
          replace HB := Lib.hid (HB.out.chg hc (by simp))
          replace HD := Lib.hid (HD.out.chg hc (by simp))
          replace B0 := Lib.hid (hc.at_ B0.out (by simp))
          replace HO := Lib.hid (fun a ha => Nat.lt_of_lt_of_le (HO.out a ha) hc.size)
          replace HO2 := Lib.hid (fun a ha => Nat.lt_of_lt_of_le (HO2.out a ha) hc.size)
          replace FJ := Lib.hid (FJ.out.chg hc (by simp))
          replace FM := Lib.hid (FM.out.chg hc (by simp))
          clear hc hz2
          go_wp2_with fail
          refine (join_any _ AM cM M B d ys FM.out.reads FM.out.cap FM.out.lt_ HB.out HC.out.2 HO2.out (by have := ML.out; omega) (by have := HS.out; omega)).mono ?_
          rintro e w36 ⟨AK, cK, rfl, hO, hN, hc⟩
          rw [KJ.out] at hO ⊢
          dsimp only at hO ⊢
          replace C := Lib.hid (C.out.trans hc)
          replace HA := Lib.hid (HA.out.chg hc (by simp))
          replace HB := Lib.hid (HB.out.chg hc (by simp))
          replace HD := Lib.hid (HD.out.chg hc (by simp))
          replace B0 := Lib.hid (hc.at_ B0.out (by simp))
          replace HO := Lib.hid (fun a ha => Nat.lt_of_lt_of_le (HO.out a ha) hc.size)
          replace HO2 := Lib.hid (fun a ha => Nat.lt_of_lt_of_le (HO2.out a ha) hc.size)
          replace FJ := Lib.hid (FJ.out.chg hc (by simp))
          replace FM := Lib.hid (FM.out.chg hc (by simp))
          have FK := Lib.hid hO
          clear hO hN hc
          go_wp2_with fail
          refine (samespan_any _ AK AJ _ _ cK cJ J J FK.out.reads FJ.out.reads (by have := JL.out; omega) (by have := JL.out; omega)).mono ?_
          rintro e w37 ⟨rfl, hc⟩
          rw [show (J == J) = true by simp]
          replace C := Lib.hid (C.out.trans hc)
          replace HA := Lib.hid (HA.out.chg hc (by simp))
          replace HB := Lib.hid (HB.out.chg hc (by simp))
          replace HD := Lib.hid (HD.out.chg hc (by simp))
          replace B0 := Lib.hid (hc.at_ B0.out (by simp))
          replace HO := Lib.hid (fun a ha => Nat.lt_of_lt_of_le (HO.out a ha) hc.size)
          replace HO2 := Lib.hid (fun a ha => Nat.lt_of_lt_of_le (HO2.out a ha) hc.size)
          replace FJ := Lib.hid (FJ.out.chg hc (by simp))
          replace FM := Lib.hid (FM.out.chg hc (by simp))
          replace FK := Lib.hid (FK.out.chg hc (by simp))
          clear hc
          go_wp2_with fail
          refine (count_any _ AM cM M FM.out.reads (by have := ML.out; omega)).mono ?_
          rintro e w38 ⟨rfl, hc⟩
          rw [CM.out]
          replace C := Lib.hid (C.out.trans hc)
          replace HA := Lib.hid (HA.out.chg hc (by simp))
          replace HB := Lib.hid (HB.out.chg hc (by simp))
          replace HD := Lib.hid (HD.out.chg hc (by simp))
          replace B0 := Lib.hid (hc.at_ B0.out (by simp))
          replace HO := Lib.hid (fun a ha => Nat.lt_of_lt_of_le (HO.out a ha) hc.size)
          replace HO2 := Lib.hid (fun a ha => Nat.lt_of_lt_of_le (HO2.out a ha) hc.size)
          replace FJ := Lib.hid (FJ.out.chg hc (by simp))
          replace FM := Lib.hid (FM.out.chg hc (by simp))
          replace FK := Lib.hid (FK.out.chg hc (by simp))
          clear hc
          go_wp2_with fail
          refine (count_any _ B d ys HB.out (by have := HS.out; omega)).mono ?_
          rintro e w39 ⟨rfl, hc⟩
          rw [CB.out]
          replace C := Lib.hid (C.out.trans hc)
          replace HA := Lib.hid (HA.out.chg hc (by simp))
          replace HB := Lib.hid (HB.out.chg hc (by simp))
          replace HD := Lib.hid (HD.out.chg hc (by simp))
          replace B0 := Lib.hid (hc.at_ B0.out (by simp))
          replace HO := Lib.hid (fun a ha => Nat.lt_of_lt_of_le (HO.out a ha) hc.size)
          replace HO2 := Lib.hid (fun a ha => Nat.lt_of_lt_of_le (HO2.out a ha) hc.size)
          replace FJ := Lib.hid (FJ.out.chg hc (by simp))
          replace FM := Lib.hid (FM.out.chg hc (by simp))
          replace FK := Lib.hid (FK.out.chg hc (by simp))
          clear hc
          go_wp2_with fail
          refine (count_any _ AJ cJ J FJ.out.reads (by have := JL.out; omega)).mono ?_
          rintro e w40 ⟨rfl, hc⟩
          rw [CJ.out]
          replace C := Lib.hid (C.out.trans hc)
          replace HA := Lib.hid (HA.out.chg hc (by simp))
          replace HB := Lib.hid (HB.out.chg hc (by simp))
          replace HD := Lib.hid (HD.out.chg hc (by simp))
          replace B0 := Lib.hid (hc.at_ B0.out (by simp))
          replace HO := Lib.hid (fun a ha => Nat.lt_of_lt_of_le (HO.out a ha) hc.size)
          replace HO2 := Lib.hid (fun a ha => Nat.lt_of_lt_of_le (HO2.out a ha) hc.size)
          replace FJ := Lib.hid (FJ.out.chg hc (by simp))
          replace FM := Lib.hid (FM.out.chg hc (by simp))
          replace FK := Lib.hid (FK.out.chg hc (by simp))
          clear hc
          have cw := CW.out
          have ce := CE.out
          go_wp2
          go_ret
          exact ⟨(by first | rfl | (simp; done) | (simp; rw [← IntWalk.i64_left]; exact CW.out)), C.out⟩
      · skip
        have y0 := cell_of B0.out 0
        have y1 := cell_of B0.out 1
        simp only [List.getElem?_toArray, List.getElem?_cons_succ, List.getElem?_cons_zero] at y0 y1
        go_wp2_with fail
        refine (has_any _ AJ cJ J n s FJ.out.reads (by have := JL.out; omega)).mono ?_
        rintro e w30 ⟨rfl, hc⟩
        rw [show hasE J n s = true by rw [EJ.out, hi, hb]; rfl]
        clear y0 y1
        replace C := Lib.hid (C.out.trans hc)
        replace HA := Lib.hid (HA.out.chg hc (by simp))
        replace HB := Lib.hid (HB.out.chg hc (by simp))
        replace HD := Lib.hid (HD.out.chg hc (by simp))
        replace B0 := Lib.hid (hc.at_ B0.out (by simp))
        replace HO := Lib.hid (fun a ha => Nat.lt_of_lt_of_le (HO.out a ha) hc.size)
        replace HO2 := Lib.hid (fun a ha => Nat.lt_of_lt_of_le (HO2.out a ha) hc.size)
        replace FJ := Lib.hid (FJ.out.chg hc (by simp))
        replace FM := Lib.hid (FM.out.chg hc (by simp))
        clear hc
        have y0 := cell_of B0.out 0
        have y1 := cell_of B0.out 1
        simp only [List.getElem?_toArray, List.getElem?_cons_succ, List.getElem?_cons_zero] at y0 y1
        go_wp2_with fail
        refine (has_any _ AM cM M n s FM.out.reads (by have := ML.out; omega)).mono ?_
        rintro e w31 ⟨rfl, hc⟩
        rw [show hasE M n s = true by rw [EM.out, hi, hb]; rfl]
        clear y0 y1
        replace C := Lib.hid (C.out.trans hc)
        replace HA := Lib.hid (HA.out.chg hc (by simp))
        replace HB := Lib.hid (HB.out.chg hc (by simp))
        replace HD := Lib.hid (HD.out.chg hc (by simp))
        replace B0 := Lib.hid (hc.at_ B0.out (by simp))
        replace HO := Lib.hid (fun a ha => Nat.lt_of_lt_of_le (HO.out a ha) hc.size)
        replace HO2 := Lib.hid (fun a ha => Nat.lt_of_lt_of_le (HO2.out a ha) hc.size)
        replace FJ := Lib.hid (FJ.out.chg hc (by simp))
        replace FM := Lib.hid (FM.out.chg hc (by simp))
        clear hc EJ EM hi hb
        go_wp2_with fail
        refine (within_any _ A c xs B d ys HA.out HC.out.1 HO.out HB.out HC.out.2 HO2.out (by have := HS.out; omega) (by have := HS.out; omega)).mono ?_
        rintro e w32 ⟨rfl, hc⟩
        rw [WM.out]
        replace C := Lib.hid (C.out.trans hc)
        replace HA := Lib.hid (HA.out.chg hc (by simp))
        replace HB := Lib.hid (HB.out.chg hc (by simp))
        replace HD := Lib.hid (HD.out.chg hc (by simp))
        replace B0 := Lib.hid (hc.at_ B0.out (by simp))
        replace HO := Lib.hid (fun a ha => Nat.lt_of_lt_of_le (HO.out a ha) hc.size)
        replace HO2 := Lib.hid (fun a ha => Nat.lt_of_lt_of_le (HO2.out a ha) hc.size)
        replace FJ := Lib.hid (FJ.out.chg hc (by simp))
        replace FM := Lib.hid (FM.out.chg hc (by simp))
        clear hc
        by_cases hz : M.length = 0
        rotate_left
        · skip
          have hz2 : ((M.length : Int) == 0) = false := beq_eq_false_iff_ne.2 (by omega)
          have hz3 := decide_eq_false hz
          rw [hz3]
          clear hz hz3
          go_wp2_with fail
          refine (within_any _ A c xs AJ cJ J HA.out HC.out.1 HO.out FJ.out.reads FJ.out.cap FJ.out.lt_ (by have := HS.out; omega) (by have := JL.out; omega)).mono ?_
          rintro e w33 ⟨rfl, hc⟩
          rw [V1.out]
          replace C := Lib.hid (C.out.trans hc)
          replace HA := Lib.hid (HA.out.chg hc (by simp))
          replace HB := Lib.hid (HB.out.chg hc (by simp))
          replace HD := Lib.hid (HD.out.chg hc (by simp))
          replace B0 := Lib.hid (hc.at_ B0.out (by simp))
          replace HO := Lib.hid (fun a ha => Nat.lt_of_lt_of_le (HO.out a ha) hc.size)
          replace HO2 := Lib.hid (fun a ha => Nat.lt_of_lt_of_le (HO2.out a ha) hc.size)
          replace FJ := Lib.hid (FJ.out.chg hc (by simp))
          replace FM := Lib.hid (FM.out.chg hc (by simp))
          clear hc
          go_wp2_with fail
          refine (within_any _ B d ys AJ cJ J HB.out HC.out.2 HO2.out FJ.out.reads FJ.out.cap FJ.out.lt_ (by have := HS.out; omega) (by have := JL.out; omega)).mono ?_
          rintro e w34 ⟨rfl, hc⟩
          rw [V2.out]
          replace C := Lib.hid (C.out.trans hc)
          replace HA := Lib.hid (HA.out.chg hc (by simp))
          replace HB := Lib.hid (HB.out.chg hc (by simp))
          replace HD := Lib.hid (HD.out.chg hc (by simp))
          replace B0 := Lib.hid (hc.at_ B0.out (by simp))
          replace HO := Lib.hid (fun a ha => Nat.lt_of_lt_of_le (HO.out a ha) hc.size)
          replace HO2 := Lib.hid (fun a ha => Nat.lt_of_lt_of_le (HO2.out a ha) hc.size)
          replace FJ := Lib.hid (FJ.out.chg hc (by simp))
          replace FM := Lib.hid (FM.out.chg hc (by simp))
          clear hc
          go_wp2_with fail
          refine (within_any _ AM cM M A c xs FM.out.reads FM.out.cap FM.out.lt_ HA.out HC.out.1 HO.out (by have := ML.out; omega) (by have := HS.out; omega)).mono ?_
          rintro e w35 ⟨rfl, hc⟩
          rw [V3.out]
          replace C := Lib.hid (C.out.trans hc)
          replace HA := Lib.hid (HA.out.chg hc (by simp))
          replace HB := Lib.hid (HB.out.chg hc (by simp))
          replace HD := Lib.hid (HD.out.chg hc (by simp))
          replace B0 := Lib.hid (hc.at_ B0.out (by simp))
          replace HO := Lib.hid (fun a ha => Nat.lt_of_lt_of_le (HO.out a ha) hc.size)
          replace HO2 := Lib.hid (fun a ha => Nat.lt_of_lt_of_le (HO2.out a ha) hc.size)
          replace FJ := Lib.hid (FJ.out.chg hc (by simp))
          replace FM := Lib.hid (FM.out.chg hc (by simp))
          clear hc hz2
          go_wp2_with fail
          refine (join_any _ AM cM M B d ys FM.out.reads FM.out.cap FM.out.lt_ HB.out HC.out.2 HO2.out (by have := ML.out; omega) (by have := HS.out; omega)).mono ?_
          rintro e w36 ⟨AK, cK, rfl, hO, hN, hc⟩
          rw [KJ.out] at hO ⊢
          dsimp only at hO ⊢
          replace C := Lib.hid (C.out.trans hc)
          replace HA := Lib.hid (HA.out.chg hc (by simp))
          replace HB := Lib.hid (HB.out.chg hc (by simp))
          replace HD := Lib.hid (HD.out.chg hc (by simp))
          replace B0 := Lib.hid (hc.at_ B0.out (by simp))
          replace HO := Lib.hid (fun a ha => Nat.lt_of_lt_of_le (HO.out a ha) hc.size)
          replace HO2 := Lib.hid (fun a ha => Nat.lt_of_lt_of_le (HO2.out a ha) hc.size)
          replace FJ := Lib.hid (FJ.out.chg hc (by simp))
          replace FM := Lib.hid (FM.out.chg hc (by simp))
          have FK := Lib.hid hO
          clear hO hN hc
          go_wp2_with fail
          refine (samespan_any _ AK AJ _ _ cK cJ J J FK.out.reads FJ.out.reads (by have := JL.out; omega) (by have := JL.out; omega)).mono ?_
          rintro e w37 ⟨rfl, hc⟩
          rw [show (J == J) = true by simp]
          replace C := Lib.hid (C.out.trans hc)
          replace HA := Lib.hid (HA.out.chg hc (by simp))
          replace HB := Lib.hid (HB.out.chg hc (by simp))
          replace HD := Lib.hid (HD.out.chg hc (by simp))
          replace B0 := Lib.hid (hc.at_ B0.out (by simp))
          replace HO := Lib.hid (fun a ha => Nat.lt_of_lt_of_le (HO.out a ha) hc.size)
          replace HO2 := Lib.hid (fun a ha => Nat.lt_of_lt_of_le (HO2.out a ha) hc.size)
          replace FJ := Lib.hid (FJ.out.chg hc (by simp))
          replace FM := Lib.hid (FM.out.chg hc (by simp))
          replace FK := Lib.hid (FK.out.chg hc (by simp))
          clear hc
          go_wp2_with fail
          refine (count_any _ AM cM M FM.out.reads (by have := ML.out; omega)).mono ?_
          rintro e w38 ⟨rfl, hc⟩
          rw [CM.out]
          replace C := Lib.hid (C.out.trans hc)
          replace HA := Lib.hid (HA.out.chg hc (by simp))
          replace HB := Lib.hid (HB.out.chg hc (by simp))
          replace HD := Lib.hid (HD.out.chg hc (by simp))
          replace B0 := Lib.hid (hc.at_ B0.out (by simp))
          replace HO := Lib.hid (fun a ha => Nat.lt_of_lt_of_le (HO.out a ha) hc.size)
          replace HO2 := Lib.hid (fun a ha => Nat.lt_of_lt_of_le (HO2.out a ha) hc.size)
          replace FJ := Lib.hid (FJ.out.chg hc (by simp))
          replace FM := Lib.hid (FM.out.chg hc (by simp))
          replace FK := Lib.hid (FK.out.chg hc (by simp))
          clear hc
          go_wp2_with fail
          refine (count_any _ B d ys HB.out (by have := HS.out; omega)).mono ?_
          rintro e w39 ⟨rfl, hc⟩
          rw [CB.out]
          replace C := Lib.hid (C.out.trans hc)
          replace HA := Lib.hid (HA.out.chg hc (by simp))
          replace HB := Lib.hid (HB.out.chg hc (by simp))
          replace HD := Lib.hid (HD.out.chg hc (by simp))
          replace B0 := Lib.hid (hc.at_ B0.out (by simp))
          replace HO := Lib.hid (fun a ha => Nat.lt_of_lt_of_le (HO.out a ha) hc.size)
          replace HO2 := Lib.hid (fun a ha => Nat.lt_of_lt_of_le (HO2.out a ha) hc.size)
          replace FJ := Lib.hid (FJ.out.chg hc (by simp))
          replace FM := Lib.hid (FM.out.chg hc (by simp))
          replace FK := Lib.hid (FK.out.chg hc (by simp))
          clear hc
          go_wp2_with fail
          refine (count_any _ AJ cJ J FJ.out.reads (by have := JL.out; omega)).mono ?_
          rintro e w40 ⟨rfl, hc⟩
          rw [CJ.out]
          replace C := Lib.hid (C.out.trans hc)
          replace HA := Lib.hid (HA.out.chg hc (by simp))
          replace HB := Lib.hid (HB.out.chg hc (by simp))
          replace HD := Lib.hid (HD.out.chg hc (by simp))
          replace B0 := Lib.hid (hc.at_ B0.out (by simp))
          replace HO := Lib.hid (fun a ha => Nat.lt_of_lt_of_le (HO.out a ha) hc.size)
          replace HO2 := Lib.hid (fun a ha => Nat.lt_of_lt_of_le (HO2.out a ha) hc.size)
          replace FJ := Lib.hid (FJ.out.chg hc (by simp))
          replace FM := Lib.hid (FM.out.chg hc (by simp))
          replace FK := Lib.hid (FK.out.chg hc (by simp))
          clear hc
          have cw := CW.out
          have ce := CE.out
          go_wp2
          go_ret
          exact ⟨(by first | rfl | (simp; done) | (simp; rw [← IntWalk.i64_left]; exact CW.out)), C.out⟩
        · skip
          have hz2 : ((M.length : Int) == 0) = true := by simpa using hz
          have hz3 := decide_eq_true hz
          rw [hz3]
          have hz4 := Lib.hid hz
          clear hz hz3
          go_wp2_with fail
          refine (within_any _ A c xs AJ cJ J HA.out HC.out.1 HO.out FJ.out.reads FJ.out.cap FJ.out.lt_ (by have := HS.out; omega) (by have := JL.out; omega)).mono ?_
          rintro e w33 ⟨rfl, hc⟩
          rw [V1.out]
          replace C := Lib.hid (C.out.trans hc)
          replace HA := Lib.hid (HA.out.chg hc (by simp))
          replace HB := Lib.hid (HB.out.chg hc (by simp))
          replace HD := Lib.hid (HD.out.chg hc (by simp))
          replace B0 := Lib.hid (hc.at_ B0.out (by simp))
          replace HO := Lib.hid (fun a ha => Nat.lt_of_lt_of_le (HO.out a ha) hc.size)
          replace HO2 := Lib.hid (fun a ha => Nat.lt_of_lt_of_le (HO2.out a ha) hc.size)
          replace FJ := Lib.hid (FJ.out.chg hc (by simp))
          replace FM := Lib.hid (FM.out.chg hc (by simp))
          clear hc
          go_wp2_with fail
          refine (within_any _ B d ys AJ cJ J HB.out HC.out.2 HO2.out FJ.out.reads FJ.out.cap FJ.out.lt_ (by have := HS.out; omega) (by have := JL.out; omega)).mono ?_
          rintro e w34 ⟨rfl, hc⟩
          rw [V2.out]
          replace C := Lib.hid (C.out.trans hc)
          replace HA := Lib.hid (HA.out.chg hc (by simp))
          replace HB := Lib.hid (HB.out.chg hc (by simp))
          replace HD := Lib.hid (HD.out.chg hc (by simp))
          replace B0 := Lib.hid (hc.at_ B0.out (by simp))
          replace HO := Lib.hid (fun a ha => Nat.lt_of_lt_of_le (HO.out a ha) hc.size)
          replace HO2 := Lib.hid (fun a ha => Nat.lt_of_lt_of_le (HO2.out a ha) hc.size)
          replace FJ := Lib.hid (FJ.out.chg hc (by simp))
          replace FM := Lib.hid (FM.out.chg hc (by simp))
          clear hc
          go_wp2_with fail
          refine (within_any _ AM cM M A c xs FM.out.reads FM.out.cap FM.out.lt_ HA.out HC.out.1 HO.out (by have := ML.out; omega) (by have := HS.out; omega)).mono ?_
          rintro e w35 ⟨rfl, hc⟩
          rw [V3.out]
          replace C := Lib.hid (C.out.trans hc)
          replace HA := Lib.hid (HA.out.chg hc (by simp))
          replace HB := Lib.hid (HB.out.chg hc (by simp))
          replace HD := Lib.hid (HD.out.chg hc (by simp))
          replace B0 := Lib.hid (hc.at_ B0.out (by simp))
          replace HO := Lib.hid (fun a ha => Nat.lt_of_lt_of_le (HO.out a ha) hc.size)
          replace HO2 := Lib.hid (fun a ha => Nat.lt_of_lt_of_le (HO2.out a ha) hc.size)
          replace FJ := Lib.hid (FJ.out.chg hc (by simp))
          replace FM := Lib.hid (FM.out.chg hc (by simp))
          clear hc hz2
          go_wp2_with fail
          refine (join_any _ AM cM M B d ys FM.out.reads FM.out.cap FM.out.lt_ HB.out HC.out.2 HO2.out (by have := ML.out; omega) (by have := HS.out; omega)).mono ?_
          rintro e w36 ⟨AK, cK, rfl, hO, hN, hc⟩
          rw [KJ.out] at hO ⊢
          dsimp only at hO ⊢
          replace C := Lib.hid (C.out.trans hc)
          replace HA := Lib.hid (HA.out.chg hc (by simp))
          replace HB := Lib.hid (HB.out.chg hc (by simp))
          replace HD := Lib.hid (HD.out.chg hc (by simp))
          replace B0 := Lib.hid (hc.at_ B0.out (by simp))
          replace HO := Lib.hid (fun a ha => Nat.lt_of_lt_of_le (HO.out a ha) hc.size)
          replace HO2 := Lib.hid (fun a ha => Nat.lt_of_lt_of_le (HO2.out a ha) hc.size)
          replace FJ := Lib.hid (FJ.out.chg hc (by simp))
          replace FM := Lib.hid (FM.out.chg hc (by simp))
          have FK := Lib.hid hO
          clear hO hN hc
          go_wp2_with fail
          refine (samespan_any _ AK AJ _ _ cK cJ J J FK.out.reads FJ.out.reads (by have := JL.out; omega) (by have := JL.out; omega)).mono ?_
          rintro e w37 ⟨rfl, hc⟩
          rw [show (J == J) = true by simp]
          replace C := Lib.hid (C.out.trans hc)
          replace HA := Lib.hid (HA.out.chg hc (by simp))
          replace HB := Lib.hid (HB.out.chg hc (by simp))
          replace HD := Lib.hid (HD.out.chg hc (by simp))
          replace B0 := Lib.hid (hc.at_ B0.out (by simp))
          replace HO := Lib.hid (fun a ha => Nat.lt_of_lt_of_le (HO.out a ha) hc.size)
          replace HO2 := Lib.hid (fun a ha => Nat.lt_of_lt_of_le (HO2.out a ha) hc.size)
          replace FJ := Lib.hid (FJ.out.chg hc (by simp))
          replace FM := Lib.hid (FM.out.chg hc (by simp))
          replace FK := Lib.hid (FK.out.chg hc (by simp))
          clear hc
          go_wp2_with fail
          refine (count_any _ AM cM M FM.out.reads (by have := ML.out; omega)).mono ?_
          rintro e w38 ⟨rfl, hc⟩
          rw [CM.out]
          replace C := Lib.hid (C.out.trans hc)
          replace HA := Lib.hid (HA.out.chg hc (by simp))
          replace HB := Lib.hid (HB.out.chg hc (by simp))
          replace HD := Lib.hid (HD.out.chg hc (by simp))
          replace B0 := Lib.hid (hc.at_ B0.out (by simp))
          replace HO := Lib.hid (fun a ha => Nat.lt_of_lt_of_le (HO.out a ha) hc.size)
          replace HO2 := Lib.hid (fun a ha => Nat.lt_of_lt_of_le (HO2.out a ha) hc.size)
          replace FJ := Lib.hid (FJ.out.chg hc (by simp))
          replace FM := Lib.hid (FM.out.chg hc (by simp))
          replace FK := Lib.hid (FK.out.chg hc (by simp))
          clear hc
          go_wp2_with fail
          refine (count_any _ B d ys HB.out (by have := HS.out; omega)).mono ?_
          rintro e w39 ⟨rfl, hc⟩
          rw [CB.out]
          replace C := Lib.hid (C.out.trans hc)
          replace HA := Lib.hid (HA.out.chg hc (by simp))
          replace HB := Lib.hid (HB.out.chg hc (by simp))
          replace HD := Lib.hid (HD.out.chg hc (by simp))
          replace B0 := Lib.hid (hc.at_ B0.out (by simp))
          replace HO := Lib.hid (fun a ha => Nat.lt_of_lt_of_le (HO.out a ha) hc.size)
          replace HO2 := Lib.hid (fun a ha => Nat.lt_of_lt_of_le (HO2.out a ha) hc.size)
          replace FJ := Lib.hid (FJ.out.chg hc (by simp))
          replace FM := Lib.hid (FM.out.chg hc (by simp))
          replace FK := Lib.hid (FK.out.chg hc (by simp))
          clear hc
          go_wp2_with fail
          refine (count_any _ AJ cJ J FJ.out.reads (by have := JL.out; omega)).mono ?_
          rintro e w40 ⟨rfl, hc⟩
          rw [CJ.out]
          replace C := Lib.hid (C.out.trans hc)
          replace HA := Lib.hid (HA.out.chg hc (by simp))
          replace HB := Lib.hid (HB.out.chg hc (by simp))
          replace HD := Lib.hid (HD.out.chg hc (by simp))
          replace B0 := Lib.hid (hc.at_ B0.out (by simp))
          replace HO := Lib.hid (fun a ha => Nat.lt_of_lt_of_le (HO.out a ha) hc.size)
          replace HO2 := Lib.hid (fun a ha => Nat.lt_of_lt_of_le (HO2.out a ha) hc.size)
          replace FJ := Lib.hid (FJ.out.chg hc (by simp))
          replace FM := Lib.hid (FM.out.chg hc (by simp))
          replace FK := Lib.hid (FK.out.chg hc (by simp))
          clear hc
          have cw := CW.out
          have ce := CE.out
          go_wp2
          go_ret
          exact ⟨(by first | rfl | (simp; done) | (simp; rw [← IntWalk.i64_left]; exact CW.out)), C.out⟩
      · skip
        have y0 := cell_of B0.out 0
        have y1 := cell_of B0.out 1
        simp only [List.getElem?_toArray, List.getElem?_cons_succ, List.getElem?_cons_zero] at y0 y1
        go_wp2_with fail
        refine (has_any _ AJ cJ J n s FJ.out.reads (by have := JL.out; omega)).mono ?_
        rintro e w30 ⟨rfl, hc⟩
        rw [show hasE J n s = true by rw [EJ.out, hi, hb]; rfl]
        clear y0 y1
        replace C := Lib.hid (C.out.trans hc)
        replace HA := Lib.hid (HA.out.chg hc (by simp))
        replace HB := Lib.hid (HB.out.chg hc (by simp))
        replace HD := Lib.hid (HD.out.chg hc (by simp))
        replace B0 := Lib.hid (hc.at_ B0.out (by simp))
        replace HO := Lib.hid (fun a ha => Nat.lt_of_lt_of_le (HO.out a ha) hc.size)
        replace HO2 := Lib.hid (fun a ha => Nat.lt_of_lt_of_le (HO2.out a ha) hc.size)
        replace FJ := Lib.hid (FJ.out.chg hc (by simp))
        replace FM := Lib.hid (FM.out.chg hc (by simp))
        clear hc
        have y0 := cell_of B0.out 0
        have y1 := cell_of B0.out 1
        simp only [List.getElem?_toArray, List.getElem?_cons_succ, List.getElem?_cons_zero] at y0 y1
        go_wp2_with fail
        refine (has_any _ AM cM M n s FM.out.reads (by have := ML.out; omega)).mono ?_
        rintro e w31 ⟨rfl, hc⟩
        rw [show hasE M n s = false by rw [EM.out, hi, hb]; rfl]
        clear y0 y1
        replace C := Lib.hid (C.out.trans hc)
        replace HA := Lib.hid (HA.out.chg hc (by simp))
        replace HB := Lib.hid (HB.out.chg hc (by simp))
        replace HD := Lib.hid (HD.out.chg hc (by simp))
        replace B0 := Lib.hid (hc.at_ B0.out (by simp))
        replace HO := Lib.hid (fun a ha => Nat.lt_of_lt_of_le (HO.out a ha) hc.size)
        replace HO2 := Lib.hid (fun a ha => Nat.lt_of_lt_of_le (HO2.out a ha) hc.size)
        replace FJ := Lib.hid (FJ.out.chg hc (by simp))
        replace FM := Lib.hid (FM.out.chg hc (by simp))
        clear hc EJ EM hi hb
        go_wp2_with fail
        refine (within_any _ A c xs B d ys HA.out HC.out.1 HO.out HB.out HC.out.2 HO2.out (by have := HS.out; omega) (by have := HS.out; omega)).mono ?_
        rintro e w32 ⟨rfl, hc⟩
        rw [WM.out]
        replace C := Lib.hid (C.out.trans hc)
        replace HA := Lib.hid (HA.out.chg hc (by simp))
        replace HB := Lib.hid (HB.out.chg hc (by simp))
        replace HD := Lib.hid (HD.out.chg hc (by simp))
        replace B0 := Lib.hid (hc.at_ B0.out (by simp))
        replace HO := Lib.hid (fun a ha => Nat.lt_of_lt_of_le (HO.out a ha) hc.size)
        replace HO2 := Lib.hid (fun a ha => Nat.lt_of_lt_of_le (HO2.out a ha) hc.size)
        replace FJ := Lib.hid (FJ.out.chg hc (by simp))
        replace FM := Lib.hid (FM.out.chg hc (by simp))
        clear hc
        by_cases hz : M.length = 0
        rotate_left
        · skip
          have hz2 : ((M.length : Int) == 0) = false := beq_eq_false_iff_ne.2 (by omega)
          have hz3 := decide_eq_false hz
          rw [hz3]
          clear hz hz3
          go_wp2_with fail
          refine (within_any _ A c xs AJ cJ J HA.out HC.out.1 HO.out FJ.out.reads FJ.out.cap FJ.out.lt_ (by have := HS.out; omega) (by have := JL.out; omega)).mono ?_
          rintro e w33 ⟨rfl, hc⟩
          rw [V1.out]
          replace C := Lib.hid (C.out.trans hc)
          replace HA := Lib.hid (HA.out.chg hc (by simp))
          replace HB := Lib.hid (HB.out.chg hc (by simp))
          replace HD := Lib.hid (HD.out.chg hc (by simp))
          replace B0 := Lib.hid (hc.at_ B0.out (by simp))
          replace HO := Lib.hid (fun a ha => Nat.lt_of_lt_of_le (HO.out a ha) hc.size)
          replace HO2 := Lib.hid (fun a ha => Nat.lt_of_lt_of_le (HO2.out a ha) hc.size)
          replace FJ := Lib.hid (FJ.out.chg hc (by simp))
          replace FM := Lib.hid (FM.out.chg hc (by simp))
          clear hc
          go_wp2_with fail
          refine (within_any _ B d ys AJ cJ J HB.out HC.out.2 HO2.out FJ.out.reads FJ.out.cap FJ.out.lt_ (by have := HS.out; omega) (by have := JL.out; omega)).mono ?_
          rintro e w34 ⟨rfl, hc⟩
          rw [V2.out]
          replace C := Lib.hid (C.out.trans hc)
          replace HA := Lib.hid (HA.out.chg hc (by simp))
          replace HB := Lib.hid (HB.out.chg hc (by simp))
          replace HD := Lib.hid (HD.out.chg hc (by simp))
          replace B0 := Lib.hid (hc.at_ B0.out (by simp))
          replace HO := Lib.hid (fun a ha => Nat.lt_of_lt_of_le (HO.out a ha) hc.size)
          replace HO2 := Lib.hid (fun a ha => Nat.lt_of_lt_of_le (HO2.out a ha) hc.size)
          replace FJ := Lib.hid (FJ.out.chg hc (by simp))
          replace FM := Lib.hid (FM.out.chg hc (by simp))
          clear hc
          go_wp2_with fail
          refine (within_any _ AM cM M A c xs FM.out.reads FM.out.cap FM.out.lt_ HA.out HC.out.1 HO.out (by have := ML.out; omega) (by have := HS.out; omega)).mono ?_
          rintro e w35 ⟨rfl, hc⟩
          rw [V3.out]
          replace C := Lib.hid (C.out.trans hc)
          replace HA := Lib.hid (HA.out.chg hc (by simp))
          replace HB := Lib.hid (HB.out.chg hc (by simp))
          replace HD := Lib.hid (HD.out.chg hc (by simp))
          replace B0 := Lib.hid (hc.at_ B0.out (by simp))
          replace HO := Lib.hid (fun a ha => Nat.lt_of_lt_of_le (HO.out a ha) hc.size)
          replace HO2 := Lib.hid (fun a ha => Nat.lt_of_lt_of_le (HO2.out a ha) hc.size)
          replace FJ := Lib.hid (FJ.out.chg hc (by simp))
          replace FM := Lib.hid (FM.out.chg hc (by simp))
          clear hc hz2
          go_wp2_with fail
          refine (join_any _ AM cM M B d ys FM.out.reads FM.out.cap FM.out.lt_ HB.out HC.out.2 HO2.out (by have := ML.out; omega) (by have := HS.out; omega)).mono ?_
          rintro e w36 ⟨AK, cK, rfl, hO, hN, hc⟩
          rw [KJ.out] at hO ⊢
          dsimp only at hO ⊢
          replace C := Lib.hid (C.out.trans hc)
          replace HA := Lib.hid (HA.out.chg hc (by simp))
          replace HB := Lib.hid (HB.out.chg hc (by simp))
          replace HD := Lib.hid (HD.out.chg hc (by simp))
          replace B0 := Lib.hid (hc.at_ B0.out (by simp))
          replace HO := Lib.hid (fun a ha => Nat.lt_of_lt_of_le (HO.out a ha) hc.size)
          replace HO2 := Lib.hid (fun a ha => Nat.lt_of_lt_of_le (HO2.out a ha) hc.size)
          replace FJ := Lib.hid (FJ.out.chg hc (by simp))
          replace FM := Lib.hid (FM.out.chg hc (by simp))
          have FK := Lib.hid hO
          clear hO hN hc
          go_wp2_with fail
          refine (samespan_any _ AK AJ _ _ cK cJ J J FK.out.reads FJ.out.reads (by have := JL.out; omega) (by have := JL.out; omega)).mono ?_
          rintro e w37 ⟨rfl, hc⟩
          rw [show (J == J) = true by simp]
          replace C := Lib.hid (C.out.trans hc)
          replace HA := Lib.hid (HA.out.chg hc (by simp))
          replace HB := Lib.hid (HB.out.chg hc (by simp))
          replace HD := Lib.hid (HD.out.chg hc (by simp))
          replace B0 := Lib.hid (hc.at_ B0.out (by simp))
          replace HO := Lib.hid (fun a ha => Nat.lt_of_lt_of_le (HO.out a ha) hc.size)
          replace HO2 := Lib.hid (fun a ha => Nat.lt_of_lt_of_le (HO2.out a ha) hc.size)
          replace FJ := Lib.hid (FJ.out.chg hc (by simp))
          replace FM := Lib.hid (FM.out.chg hc (by simp))
          replace FK := Lib.hid (FK.out.chg hc (by simp))
          clear hc
          go_wp2_with fail
          refine (count_any _ AM cM M FM.out.reads (by have := ML.out; omega)).mono ?_
          rintro e w38 ⟨rfl, hc⟩
          rw [CM.out]
          replace C := Lib.hid (C.out.trans hc)
          replace HA := Lib.hid (HA.out.chg hc (by simp))
          replace HB := Lib.hid (HB.out.chg hc (by simp))
          replace HD := Lib.hid (HD.out.chg hc (by simp))
          replace B0 := Lib.hid (hc.at_ B0.out (by simp))
          replace HO := Lib.hid (fun a ha => Nat.lt_of_lt_of_le (HO.out a ha) hc.size)
          replace HO2 := Lib.hid (fun a ha => Nat.lt_of_lt_of_le (HO2.out a ha) hc.size)
          replace FJ := Lib.hid (FJ.out.chg hc (by simp))
          replace FM := Lib.hid (FM.out.chg hc (by simp))
          replace FK := Lib.hid (FK.out.chg hc (by simp))
          clear hc
          go_wp2_with fail
          refine (count_any _ B d ys HB.out (by have := HS.out; omega)).mono ?_
          rintro e w39 ⟨rfl, hc⟩
          rw [CB.out]
          replace C := Lib.hid (C.out.trans hc)
          replace HA := Lib.hid (HA.out.chg hc (by simp))
          replace HB := Lib.hid (HB.out.chg hc (by simp))
          replace HD := Lib.hid (HD.out.chg hc (by simp))
          replace B0 := Lib.hid (hc.at_ B0.out (by simp))
          replace HO := Lib.hid (fun a ha => Nat.lt_of_lt_of_le (HO.out a ha) hc.size)
          replace HO2 := Lib.hid (fun a ha => Nat.lt_of_lt_of_le (HO2.out a ha) hc.size)
          replace FJ := Lib.hid (FJ.out.chg hc (by simp))
          replace FM := Lib.hid (FM.out.chg hc (by simp))
          replace FK := Lib.hid (FK.out.chg hc (by simp))
          clear hc
          go_wp2_with fail
          refine (count_any _ AJ cJ J FJ.out.reads (by have := JL.out; omega)).mono ?_
          rintro e w40 ⟨rfl, hc⟩
          rw [CJ.out]
          replace C := Lib.hid (C.out.trans hc)
          replace HA := Lib.hid (HA.out.chg hc (by simp))
          replace HB := Lib.hid (HB.out.chg hc (by simp))
          replace HD := Lib.hid (HD.out.chg hc (by simp))
          replace B0 := Lib.hid (hc.at_ B0.out (by simp))
          replace HO := Lib.hid (fun a ha => Nat.lt_of_lt_of_le (HO.out a ha) hc.size)
          replace HO2 := Lib.hid (fun a ha => Nat.lt_of_lt_of_le (HO2.out a ha) hc.size)
          replace FJ := Lib.hid (FJ.out.chg hc (by simp))
          replace FM := Lib.hid (FM.out.chg hc (by simp))
          replace FK := Lib.hid (FK.out.chg hc (by simp))
          clear hc
          have cw := CW.out
          have ce := CE.out
          go_wp2
          go_ret
          exact ⟨(by first | rfl | (simp; done) | (simp; rw [← IntWalk.i64_left]; exact CW.out)), C.out⟩
        · skip
          have hz2 : ((M.length : Int) == 0) = true := by simpa using hz
          have hz3 := decide_eq_true hz
          rw [hz3]
          have hz4 := Lib.hid hz
          clear hz hz3
          go_wp2_with fail
          refine (within_any _ A c xs AJ cJ J HA.out HC.out.1 HO.out FJ.out.reads FJ.out.cap FJ.out.lt_ (by have := HS.out; omega) (by have := JL.out; omega)).mono ?_
          rintro e w33 ⟨rfl, hc⟩
          rw [V1.out]
          replace C := Lib.hid (C.out.trans hc)
          replace HA := Lib.hid (HA.out.chg hc (by simp))
          replace HB := Lib.hid (HB.out.chg hc (by simp))
          replace HD := Lib.hid (HD.out.chg hc (by simp))
          replace B0 := Lib.hid (hc.at_ B0.out (by simp))
          replace HO := Lib.hid (fun a ha => Nat.lt_of_lt_of_le (HO.out a ha) hc.size)
          replace HO2 := Lib.hid (fun a ha => Nat.lt_of_lt_of_le (HO2.out a ha) hc.size)
          replace FJ := Lib.hid (FJ.out.chg hc (by simp))
          replace FM := Lib.hid (FM.out.chg hc (by simp))
          clear hc
          go_wp2_with fail
          refine (within_any _ B d ys AJ cJ J HB.out HC.out.2 HO2.out FJ.out.reads FJ.out.cap FJ.out.lt_ (by have := HS.out; omega) (by have := JL.out; omega)).mono ?_
          rintro e w34 ⟨rfl, hc⟩
          rw [V2.out]
          replace C := Lib.hid (C.out.trans hc)
          replace HA := Lib.hid (HA.out.chg hc (by simp))
          replace HB := Lib.hid (HB.out.chg hc (by simp))
          replace HD := Lib.hid (HD.out.chg hc (by simp))
          replace B0 := Lib.hid (hc.at_ B0.out (by simp))
          replace HO := Lib.hid (fun a ha => Nat.lt_of_lt_of_le (HO.out a ha) hc.size)
          replace HO2 := Lib.hid (fun a ha => Nat.lt_of_lt_of_le (HO2.out a ha) hc.size)
          replace FJ := Lib.hid (FJ.out.chg hc (by simp))
          replace FM := Lib.hid (FM.out.chg hc (by simp))
          clear hc
          go_wp2_with fail
          refine (within_any _ AM cM M A c xs FM.out.reads FM.out.cap FM.out.lt_ HA.out HC.out.1 HO.out (by have := ML.out; omega) (by have := HS.out; omega)).mono ?_
          rintro e w35 ⟨rfl, hc⟩
          rw [V3.out]
          replace C := Lib.hid (C.out.trans hc)
          replace HA := Lib.hid (HA.out.chg hc (by simp))
          replace HB := Lib.hid (HB.out.chg hc (by simp))
          replace HD := Lib.hid (HD.out.chg hc (by simp))
          replace B0 := Lib.hid (hc.at_ B0.out (by simp))
          replace HO := Lib.hid (fun a ha => Nat.lt_of_lt_of_le (HO.out a ha) hc.size)
          replace HO2 := Lib.hid (fun a ha => Nat.lt_of_lt_of_le (HO2.out a ha) hc.size)
          replace FJ := Lib.hid (FJ.out.chg hc (by simp))
          replace FM := Lib.hid (FM.out.chg hc (by simp))
          clear hc hz2
          go_wp2_with fail
          refine (join_any _ AM cM M B d ys FM.out.reads FM.out.cap FM.out.lt_ HB.out HC.out.2 HO2.out (by have := ML.out; omega) (by have := HS.out; omega)).mono ?_
          rintro e w36 ⟨AK, cK, rfl, hO, hN, hc⟩
          rw [KJ.out] at hO ⊢
          dsimp only at hO ⊢
          replace C := Lib.hid (C.out.trans hc)
          replace HA := Lib.hid (HA.out.chg hc (by simp))
          replace HB := Lib.hid (HB.out.chg hc (by simp))
          replace HD := Lib.hid (HD.out.chg hc (by simp))
          replace B0 := Lib.hid (hc.at_ B0.out (by simp))
          replace HO := Lib.hid (fun a ha => Nat.lt_of_lt_of_le (HO.out a ha) hc.size)
          replace HO2 := Lib.hid (fun a ha => Nat.lt_of_lt_of_le (HO2.out a ha) hc.size)
          replace FJ := Lib.hid (FJ.out.chg hc (by simp))
          replace FM := Lib.hid (FM.out.chg hc (by simp))
          have FK := Lib.hid hO
          clear hO hN hc
          go_wp2_with fail
          refine (samespan_any _ AK AJ _ _ cK cJ J J FK.out.reads FJ.out.reads (by have := JL.out; omega) (by have := JL.out; omega)).mono ?_
          rintro e w37 ⟨rfl, hc⟩
          rw [show (J == J) = true by simp]
          replace C := Lib.hid (C.out.trans hc)
          replace HA := Lib.hid (HA.out.chg hc (by simp))
          replace HB := Lib.hid (HB.out.chg hc (by simp))
          replace HD := Lib.hid (HD.out.chg hc (by simp))
          replace B0 := Lib.hid (hc.at_ B0.out (by simp))
          replace HO := Lib.hid (fun a ha => Nat.lt_of_lt_of_le (HO.out a ha) hc.size)
          replace HO2 := Lib.hid (fun a ha => Nat.lt_of_lt_of_le (HO2.out a ha) hc.size)
          replace FJ := Lib.hid (FJ.out.chg hc (by simp))
          replace FM := Lib.hid (FM.out.chg hc (by simp))
          replace FK := Lib.hid (FK.out.chg hc (by simp))
          clear hc
          go_wp2_with fail
          refine (count_any _ AM cM M FM.out.reads (by have := ML.out; omega)).mono ?_
          rintro e w38 ⟨rfl, hc⟩
          rw [CM.out]
          replace C := Lib.hid (C.out.trans hc)
          replace HA := Lib.hid (HA.out.chg hc (by simp))
          replace HB := Lib.hid (HB.out.chg hc (by simp))
          replace HD := Lib.hid (HD.out.chg hc (by simp))
          replace B0 := Lib.hid (hc.at_ B0.out (by simp))
          replace HO := Lib.hid (fun a ha => Nat.lt_of_lt_of_le (HO.out a ha) hc.size)
          replace HO2 := Lib.hid (fun a ha => Nat.lt_of_lt_of_le (HO2.out a ha) hc.size)
          replace FJ := Lib.hid (FJ.out.chg hc (by simp))
          replace FM := Lib.hid (FM.out.chg hc (by simp))
          replace FK := Lib.hid (FK.out.chg hc (by simp))
          clear hc
          go_wp2_with fail
          refine (count_any _ B d ys HB.out (by have := HS.out; omega)).mono ?_
          rintro e w39 ⟨rfl, hc⟩
          rw [CB.out]
          replace C := Lib.hid (C.out.trans hc)
          replace HA := Lib.hid (HA.out.chg hc (by simp))
          replace HB := Lib.hid (HB.out.chg hc (by simp))
          replace HD := Lib.hid (HD.out.chg hc (by simp))
          replace B0 := Lib.hid (hc.at_ B0.out (by simp))
          replace HO := Lib.hid (fun a ha => Nat.lt_of_lt_of_le (HO.out a ha) hc.size)
          replace HO2 := Lib.hid (fun a ha => Nat.lt_of_lt_of_le (HO2.out a ha) hc.size)
          replace FJ := Lib.hid (FJ.out.chg hc (by simp))
          replace FM := Lib.hid (FM.out.chg hc (by simp))
          replace FK := Lib.hid (FK.out.chg hc (by simp))
          clear hc
          go_wp2_with fail
          refine (count_any _ AJ cJ J FJ.out.reads (by have := JL.out; omega)).mono ?_
          rintro e w40 ⟨rfl, hc⟩
          rw [CJ.out]
          replace C := Lib.hid (C.out.trans hc)
          replace HA := Lib.hid (HA.out.chg hc (by simp))
          replace HB := Lib.hid (HB.out.chg hc (by simp))
          replace HD := Lib.hid (HD.out.chg hc (by simp))
          replace B0 := Lib.hid (hc.at_ B0.out (by simp))
          replace HO := Lib.hid (fun a ha => Nat.lt_of_lt_of_le (HO.out a ha) hc.size)
          replace HO2 := Lib.hid (fun a ha => Nat.lt_of_lt_of_le (HO2.out a ha) hc.size)
          replace FJ := Lib.hid (FJ.out.chg hc (by simp))
          replace FM := Lib.hid (FM.out.chg hc (by simp))
          replace FK := Lib.hid (FK.out.chg hc (by simp))
          clear hc
          have cw := CW.out
          have ce := CE.out
          go_wp2
          go_ret
          exact ⟨(by first | rfl | (simp; done) | (simp; rw [← IntWalk.i64_left]; exact CW.out)), C.out⟩
end
end Go.Proofs.Ytgafkphhnlifiaa
