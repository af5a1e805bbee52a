/- TableMoves. -/
import Derived.Test.YtimdfpejgaidhaaGreatDoorZtban
import Derived.Test.YtimdfpejgaidhaaGreatDoorZtbao
import Derived.Test.YtimdfpejgaidhaaGreatDoorZtbam
import Derived.Test.YtimdfpejgaidhaaGreatDoorZtbal
import Derived.Deep.Cut
import Derived.Deep.RegionHeld3
namespace Go.Proofs.YtimdfpejgaidhaaGreatDoor
section
open Go.RowKit Go.Lib
set_option linter.unusedSimpArgs false
set_option linter.unusedVariables false

theorem move_bad {t u : List EnP} {f g : List UInt8} {rc : Int} (h : moveT t f g = (rc, u)) (h0 : rc ≠ 0) : u = [] := by
  unfold moveT at h
  repeat' split at h
  all_goals first
    | (cases h; rfl)
    | (exact absurd (congrArg Prod.fst h).symm h0)
set_option maxRecDepth 100000 in
set_option maxHeartbeats 16000000 in
/-- TableMoves. -/
theorem tablemoves_yes (w : World) (A : Option Addr) (n c : Nat) (xs : List EnT) (es : List EnP) (hb : RdK enTy w A n xs) (hr : EnsR w xs es) (hn : n * 56 ≤ 140737488351232) (hm : n ≤ c) (hz : ∀ (i : Nat) (x : EnT) (e : EnP), xs[i]? = some x → es[i]? = some e → EnZ x e) (s t : ByteArray) (hs : s.size ≤ 140737488351232) (ht : t.size ≤ 140737488351232) :
    Calls Tryz.prog 6 #[.slice A n c, .string s, .string t] w fun r w' => r = .returned (.bool true) ∧ Chg [] w w' := by
  have hl := hb.len
  subst hl
  have HZ := Lib.hid hz
  have HN : Hid (xs.length ≤ 140737488351232) := Lib.hid (by omega)
  have C := Lib.hid (Chg.refl [] w)
  have HA := Lib.hid hb
  have HX := Lib.hid hr
  have LN := Lib.hid (fun w' (hc : Chg [] w w') => longens_any w' A c xs (hb.chg hc (by simp)) HN.out (fun x hx => by
    obtain ⟨i, hi⟩ := List.getElem?_of_mem hx
    obtain ⟨e, he⟩ : ∃ e, es[i]? = some e := ⟨_, List.getElem?_eq_getElem (by rw [← hr.1]; exact (List.getElem?_eq_some_iff.1 hi).1)⟩
    have := (hr.2 i x e hi he).l
    have := (HZ.out i x e hi he).1
    omega))
  obtain ⟨f, hf⟩ : ∃ f, s.data.toList = f := ⟨_, rfl⟩
  obtain ⟨g, hg⟩ : ∃ g, t.data.toList = g := ⟨_, rfl⟩
  have es_ : s = strOf f := by rw [← hf]; exact (strOf_of s).symm
  have et_ : t = strOf g := by rw [← hg]; exact (strOf_of t).symm
  subst es_ et_
  clear hf hg hb hr hn hm hz
  have HS2 : Hid (f.length ≤ 140737488351232 ∧ g.length ≤ 140737488351232) := Lib.hid (by rw [strOf_size] at hs ht; exact ⟨hs, ht⟩)
  clear hs ht
  go_enter Tryz.func6, Tryz.ntmps6
  go_wp2_with fail
  refine (l5awake_any w).mono ?_
  rintro r w1 ⟨rfl, hc⟩
  replace C := Lib.hid (C.out.trans hc)
  replace HA := Lib.hid (HA.out.chg hc (by simp))
  replace HX := Lib.hid (HX.out.chg hc)
  clear hc
  go_wp2_with fail
  refine (LN.out _ C.out).mono ?_
  rintro r w2 ⟨rfl, hc⟩
  replace C := Lib.hid (C.out.trans hc)
  replace HA := Lib.hid (HA.out.chg hc (by simp))
  replace HX := Lib.hid (HX.out.chg hc)
  clear hc LN
  rcases hlong : longN xs with _ | _
  rotate_left
  · skip
    clear hlong
    go_wp2
    go_ret
    exact ⟨rfl, C.out⟩
  have SM := Lib.hid (ens_small HX.out hlong)
  clear hlong
  by_cases h1 : 100 < f.length
  · skip
    have i1 : (100 : Int) < ((strOf f).size : Int) := by rw [strOf_size]; omega
    clear h1
    go_wp2
    go_ret
    exact ⟨rfl, C.out⟩
  by_cases h2 : 100 < g.length
  · skip
    have i1 : ¬ (100 : Int) < ((strOf f).size : Int) := by rw [strOf_size]; omega
    have i2 : (100 : Int) < ((strOf g).size : Int) := by rw [strOf_size]; omega
    clear h1 h2
    go_wp2
    go_ret
    exact ⟨rfl, C.out⟩
  have i1 : ¬ (100 : Int) < ((strOf f).size : Int) := by rw [strOf_size]; omega
  have i2 : ¬ (100 : Int) < ((strOf g).size : Int) := by rw [strOf_size]; omega
  have FG : Hid (f.length ≤ 100 ∧ g.length ≤ 100) := Lib.hid ⟨by omega, by omega⟩
  have SZ := Lib.hid SM.out.2
  have XN := Lib.hid SM.out.1
  clear h1 h2 HZ HN HS2 SM
  obtain ⟨R, hR⟩ : ∃ R, moveT es f g = R := ⟨_, rfl⟩
  have MV := tbmove_any w2 A c xs es f g (by have := FG.out; omega) (by have := FG.out; omega) HA.out HX.out (by have := XN.out; omega) (fun e he => (SZ.out e he).1)
  rw [hR] at MV
  have MV2 := Lib.hid MV
  clear MV
  go_wp2_with fail
  clear i1 i2
  refine MV2.out.mono ?_
  rintro r w3 ⟨Au, cu, us, rfl, hu, hc⟩
  have UR := Lib.hid hu.row.reads
  have UE := Lib.hid hu.all.ev
  clear hu MV2
  replace C := Lib.hid (C.out.trans hc)
  replace HA := Lib.hid (HA.out.chg hc (by simp))
  replace HX := Lib.hid (HX.out.chg hc)
  clear hc
  obtain ⟨rc, us_⟩ := R
  by_cases h0 : rc = 0
  rotate_left
  · skip
    have UZ : Hid (us.length = 0) := Lib.hid (by rw [UE.out.1]; have := move_bad hR h0; rw [this]; rfl)
    have e1 : ((rc == 0) : Bool) = false := by simpa using h0
    have e2 : ((rc != 0) : Bool) = true := by unfold bne; rw [e1]; rfl
    have e3 : ((us.length : Int) == 0) = true := by rw [UZ.out]; rfl
    rw [UZ.out]
    clear h0 hR UZ UR UE
    go_wp2
    go_ret
    exact ⟨rfl, C.out⟩
  subst h0
  have MY := Lib.hid (move_yes hR)
  have MB := Lib.hid (move_back hR)
  have ML := Lib.hid (move_len hR)
  have MG := Lib.hid (move_got hR)
  have MT := Lib.hid (move_tab hR).2
  have US : Hid (∀ e ∈ us_, EnSm e) := Lib.hid (fun e he => by
    have st := MT.out.1 e he
    have := ok_short st.1
    have := chkE_len st.2.1
    exact ⟨by omega, by omega⟩)
  obtain ⟨e0, he0, hg0⟩ := MG.out.1
  have E0 := Lib.hid he0
  have E1 := Lib.hid hg0
  clear hR he0 hg0
  have UN : Hid (us.length ≤ 60) := Lib.hid (by rw [UE.out.1, ML.out, ← HX.out.1]; exact XN.out)
  have GC := tbget_any w3 A c xs es f HA.out HX.out (by have := XN.out; omega) (fun e he => (SZ.out e he).1.2)
  rw [E0.out] at GC
  simp only [Option.getD_some, Option.isSome_some] at GC
  have GC2 := Lib.hid GC
  clear GC
  go_wp2_with fail
  refine GC2.out.mono ?_
  rintro r w4 ⟨A4, c4, rfl, hB, _, hc⟩
  have R4 := Lib.hid hB.reads
  clear hB GC2
  replace C := Lib.hid (C.out.trans hc)
  replace HA := Lib.hid (HA.out.chg hc (by simp))
  replace HX := Lib.hid (HX.out.chg hc)
  replace UR := Lib.hid (UR.out.chg hc (by simp))
  replace UE := Lib.hid (UE.out.chg hc)
  clear hc
  obtain ⟨w5, hw, hc, b7⟩ := news1 w4 (.cells #[.int .i64 e0.k, .int .i64 e0.m, .slice A4 e0.b.length c4] 25)
  have WW := Lib.hid hw
  have B5 := Lib.hid b7
  clear hw b7
  replace C := Lib.hid (C.out.trans hc)
  replace HA := Lib.hid (HA.out.chg hc (by simp))
  replace HX := Lib.hid (HX.out.chg hc)
  replace UR := Lib.hid (UR.out.chg hc (by simp))
  replace UE := Lib.hid (UE.out.chg hc)
  replace R4 := Lib.hid (R4.out.chg hc (by simp))
  clear hc
  obtain ⟨g5, hgg⟩ : ∃ g, w4.heap.size = g := ⟨_, rfl⟩
  rw [hgg] at B5
  go_upto_region 8 with fail
  rw [← WW.out]
  try rw [hgg]
  clear WW hgg
  have GC := tbget_any w5 Au cu us us_ g UR.out UE.out (by have := UN.out; omega) (fun e he => (US.out e he).2)
  rw [E1.out] at GC
  simp only [Option.getD_some, Option.isSome_some] at GC
  have GC2 := Lib.hid GC
  clear GC
  go_wp2_with fail
  refine GC2.out.mono ?_
  rintro r w6 ⟨A6, c6, rfl, hB, _, hc⟩
  have R6 := Lib.hid hB.reads
  clear hB GC2
  replace C := Lib.hid (C.out.trans hc)
  replace HA := Lib.hid (HA.out.chg hc (by simp))
  replace HX := Lib.hid (HX.out.chg hc)
  replace UR := Lib.hid (UR.out.chg hc (by simp))
  replace UE := Lib.hid (UE.out.chg hc)
  replace R4 := Lib.hid (R4.out.chg hc (by simp))
  replace B5 := Lib.hid (hc.at_ B5.out (by simp))
  clear hc
  obtain ⟨w7, hw, hc, b7⟩ := news1 w6 (.cells #[.int .i64 e0.k, .int .i64 e0.m, .slice A6 e0.b.length c6] 25)
  have WW := Lib.hid hw
  have B7 := Lib.hid b7
  clear hw b7
  replace C := Lib.hid (C.out.trans hc)
  replace HA := Lib.hid (HA.out.chg hc (by simp))
  replace HX := Lib.hid (HX.out.chg hc)
  replace UR := Lib.hid (UR.out.chg hc (by simp))
  replace UE := Lib.hid (UE.out.chg hc)
  replace R4 := Lib.hid (R4.out.chg hc (by simp))
  replace B5 := Lib.hid (hc.at_ B5.out (by simp))
  replace R6 := Lib.hid (R6.out.chg hc (by simp))
  clear hc
  obtain ⟨g7, hgg⟩ : ∃ g, w6.heap.size = g := ⟨_, rfl⟩
  rw [hgg] at B7
  go_upto_region 9 with fail
  rw [← WW.out]
  try rw [hgg]
  clear WW hgg
  have z0 := cell_of B5.out 0
  have z1 := cell_of B5.out 1
  have z2 := cell_of B5.out 2
  have y0 := cell_of B7.out 0
  have y1 := cell_of B7.out 1
  have y2 := cell_of B7.out 2
  simp only [List.getElem?_toArray, List.getElem?_cons_succ, List.getElem?_cons_zero] at z0 z1 z2 y0 y1 y2
  have SX := sameeff_any w7 e0.k e0.m e0.k e0.m A4 A6 e0.b.length c4 e0.b.length c6 e0.b e0.b R4.out R6.out
  rw [show sameX e0.k e0.m e0.b e0.k e0.m e0.b = true by unfold sameX; simp] at SX
  have SX2 := Lib.hid SX
  clear SX
  go_wp2_with fail
  clear z0 z1 z2 y0 y1 y2
  refine SX2.out.mono ?_
  rintro r w8 ⟨rfl, hc⟩
  replace C := Lib.hid (C.out.trans hc)
  replace HA := Lib.hid (HA.out.chg hc (by simp))
  replace HX := Lib.hid (HX.out.chg hc)
  replace UR := Lib.hid (UR.out.chg hc (by simp))
  replace UE := Lib.hid (UE.out.chg hc)
  replace R4 := Lib.hid (R4.out.chg hc (by simp))
  replace B5 := Lib.hid (hc.at_ B5.out (by simp))
  replace R6 := Lib.hid (R6.out.chg hc (by simp))
  replace B7 := Lib.hid (hc.at_ B7.out (by simp))
  clear hc SX2
  have UC := Lib.hid (tbunder_any w8 A c xs es f (by have := FG.out; omega) HA.out HX.out (by have := XN.out; omega) (fun e he => (SZ.out e he).1))
  go_wp2_with fail
  refine UC.out.mono ?_
  rintro r w9 ⟨A9, c9, vs, rfl, hv, hc⟩
  have VL := Lib.hid hv.all.ev.1
  clear hv UC
  replace C := Lib.hid (C.out.trans hc)
  replace HA := Lib.hid (HA.out.chg hc (by simp))
  replace HX := Lib.hid (HX.out.chg hc)
  replace UR := Lib.hid (UR.out.chg hc (by simp))
  replace UE := Lib.hid (UE.out.chg hc)
  replace R4 := Lib.hid (R4.out.chg hc (by simp))
  replace B5 := Lib.hid (hc.at_ B5.out (by simp))
  replace R6 := Lib.hid (R6.out.chg hc (by simp))
  replace B7 := Lib.hid (hc.at_ B7.out (by simp))
  clear hc
  have UC := Lib.hid (tbunder_any w9 Au cu us us_ g (by have := FG.out; omega) UR.out UE.out (by have := UN.out; omega) US.out)
  go_wp2_with fail
  refine UC.out.mono ?_
  rintro r wa ⟨Aa, ca, vs2, rfl, hv, hc⟩
  have VL2 := Lib.hid hv.all.ev.1
  clear hv UC
  replace C := Lib.hid (C.out.trans hc)
  replace HA := Lib.hid (HA.out.chg hc (by simp))
  replace HX := Lib.hid (HX.out.chg hc)
  replace UR := Lib.hid (UR.out.chg hc (by simp))
  replace UE := Lib.hid (UE.out.chg hc)
  replace R4 := Lib.hid (R4.out.chg hc (by simp))
  replace B5 := Lib.hid (hc.at_ B5.out (by simp))
  replace R6 := Lib.hid (R6.out.chg hc (by simp))
  replace B7 := Lib.hid (hc.at_ B7.out (by simp))
  clear hc
  have VE : Hid (vs.length = vs2.length) := Lib.hid (by rw [VL.out, VL2.out]; exact MG.out.2.2.2.1.symm)
  have UX : Hid (us.length = xs.length) := Lib.hid (by rw [UE.out.1, ML.out, HX.out.1])
  rw [VE.out, UX.out]
  have n1 : (((vs2.length : Int) == (vs2.length : Int)) : Bool) = true := by simp
  have n2 : (((xs.length : Int) == (xs.length : Int)) : Bool) = true := by simp
  have MV := tbmove_any wa Au cu us us_ g f (by have := FG.out; omega) (by have := FG.out; omega) UR.out UE.out (by have := UN.out; omega) US.out
  rw [MB.out, UX.out] at MV
  have MV2 := Lib.hid MV
  clear MV
  go_wp2_with fail
  clear n1 n2
  refine MV2.out.mono ?_
  rintro r wb ⟨Ab, cb, ws, rfl, hu, hc⟩
  have WR := Lib.hid hu.row.reads
  have WE := Lib.hid hu.all.ev
  clear hu MV2
  replace C := Lib.hid (C.out.trans hc)
  replace HA := Lib.hid (HA.out.chg hc (by simp))
  replace HX := Lib.hid (HX.out.chg hc)
  replace UR := Lib.hid (UR.out.chg hc (by simp))
  replace UE := Lib.hid (UE.out.chg hc)
  replace R4 := Lib.hid (R4.out.chg hc (by simp))
  replace B5 := Lib.hid (hc.at_ B5.out (by simp))
  replace R6 := Lib.hid (R6.out.chg hc (by simp))
  replace B7 := Lib.hid (hc.at_ B7.out (by simp))
  clear hc
  have SX := sameens_any wb Ab A cb c ws xs es es WR.out HA.out WE.out HX.out ⟨by have := WE.out.1; have := HX.out.1; have := XN.out; omega, by have := XN.out; omega⟩
  rw [sameNs_refl] at SX
  have SX2 := Lib.hid SX
  clear SX
  go_wp2_with fail
  refine SX2.out.mono ?_
  rintro r wc ⟨rfl, hc⟩
  replace C := Lib.hid (C.out.trans hc)
  replace HA := Lib.hid (HA.out.chg hc (by simp))
  replace HX := Lib.hid (HX.out.chg hc)
  replace UR := Lib.hid (UR.out.chg hc (by simp))
  replace UE := Lib.hid (UE.out.chg hc)
  replace R4 := Lib.hid (R4.out.chg hc (by simp))
  replace B5 := Lib.hid (hc.at_ B5.out (by simp))
  replace R6 := Lib.hid (R6.out.chg hc (by simp))
  replace B7 := Lib.hid (hc.at_ B7.out (by simp))
  replace WR := Lib.hid (WR.out.chg hc (by simp))
  replace WE := Lib.hid (WE.out.chg hc)
  clear hc SX2
  go_wp2
  go_ret
  exact ⟨rfl, C.out⟩
end
end Go.Proofs.YtimdfpejgaidhaaGreatDoor
