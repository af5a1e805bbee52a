/- PastDots. PastSets. Arguments opened: bytes, numbers, texts: from the data that a row reads to the cells that a walk goes over. Slices of spans as arguments. Slices of dots as arguments. -/
import Derived.Test.YtgafkphhnlifiaaZpsj
import Derived.Test.YtgafkphhnlifiaaZpsi
import Derived.Test.YtgafkphhnlifiaaZpso
import Derived.Test.YtgafkphhnlifiaaZpsf
import Derived.Test.YtgafkphhnlifiaaZpsg
import Derived.Test.YtgafkphhnlifiaaZpsa
import Derived.Deep.Slices
import Derived.Deep.Fields
import Derived.ChangeSame
import Derived.SizedLaws
import Derived.ChangeArms
import Derived.ChangeSlices
import Derived.OpenShut
import Derived.ProofKit
import Derived.Test.YtgafkphhnlifiaaZpsb
namespace Go.Proofs.Ytgafkphhnlifiaa
section
open Go.RowKit Go.Lib
set_option linter.unusedSimpArgs false
set_option linter.unusedVariables false


theorem boundP_len (l : List Sp) : (boundP l).2.length ≤ 4000 := by
  unfold boundP
  split
  · simp
  · simp only; omega
theorem joinE_len (a b : List Sp) : (joinE a b).2.length ≤ 4000 := by
  unfold joinE
  split
  · exact boundP_len _
  · simp
end
section
open Go.RowKit Go.Lib
set_option linter.unusedSimpArgs false
set_option linter.unusedVariables false


theorem along_any (w : World) (A B D : Option Addr) (n c m d k e : Nat) : Calls Try.prog 7 #[.slice A n c, .slice B m d, .slice D k e] w fun e w' => e = .returned (.bool (decide (200 < n ∨ 200 < m ∨ 200 < k))) ∧ Chg [] w w' := by
  by_cases h : 200 < n
  · have h2 : (200 : Int) < (n : Int) := by omega
    rw [decide_eq_true (by omega)]
    go_enter Try.func7, Try.ntmps7
    go_wp2
    go_ret
    exact ⟨rfl, Chg.refl _ _⟩
  have h2 : ¬ (200 : Int) < (n : Int) := by omega
  by_cases h3 : 200 < m
  · have h4 : (200 : Int) < (m : Int) := by omega
    rw [decide_eq_true (by omega)]
    go_enter Try.func7, Try.ntmps7
    go_wp2
    go_ret
    exact ⟨rfl, Chg.refl _ _⟩
  have h4 : ¬ (200 : Int) < (m : Int) := by omega
  by_cases h5 : 200 < k
  · have h6 : (200 : Int) < (k : Int) := by omega
    rw [decide_eq_true (by omega)]
    go_enter Try.func7, Try.ntmps7
    go_wp2
    go_ret
    exact ⟨rfl, Chg.refl _ _⟩
  · have h6 : ¬ (200 : Int) < (k : Int) := by omega
    rw [decide_eq_false (by omega)]
    go_enter Try.func7, Try.ntmps7
    go_wp2
    go_ret
    exact ⟨rfl, Chg.refl _ _⟩

theorem ofE_len (l : List (Int × Int)) : (ofE l).2.length ≤ 4000 := by
  unfold ofE
  split
  · exact boundP_len _
  · simp
theorem minusE_len (a b : List Sp) : (minusE a b).2.length ≤ 4000 := by
  unfold minusE
  split
  · exact boundP_len _
  · simp
set_option maxHeartbeats 8000000 in
set_option maxRecDepth 100000 in
theorem psetslaw_yes (w : World) (A : Option Addr) (m c : Nat) (xs : List Sp) (h : RdK spanTy w A m xs) (B : Option Addr) (m' d : Nat) (ys : List Sp) (h' : RdK spanTy w B m' ys) (D : Option Addr) (m'' f : Nat) (l : List (Int × Int)) (h'' : RdK dotTy w D m'' l) :
    Calls Try.prog 3 #[.slice A m c, .slice B m' d, .slice D m'' f] w fun e w' => e = .returned (.bool true) ∧ Chg [] w w' := by

  have hl := h.len
  subst hl
  have hl := h'.len
  subst hl
  have hl := h''.len
  subst hl
  have HA := Lib.hid h
  have HA0 := HA
  have HB := Lib.hid h'
  have HB0 := HB
  have HD := Lib.hid h''
  have HD0 := HD
  have C := Lib.hid (Chg.refl [] w)
  clear h h' h''
  go_enter Try.func3, Try.ntmps3
  by_cases hbig : 200 < xs.length ∨ 200 < ys.length ∨ 200 < l.length
  · go_wp2_with fail
    refine (along_any _ A B D _ c _ d _ f).mono ?_
    rintro e w1 ⟨rfl, hc⟩
    rw [decide_eq_true hbig]
    have C := Lib.hid (C.out.trans hc)
    clear hc
    go_wp2_with fail
    refine (l7awake_run _).mono ?_
    rintro e w2 ⟨rfl, hc⟩
    have C := Lib.hid (C.out.trans hc)
    clear hc
    go_wp2
    go_ret
    exact ⟨rfl, C.out⟩
  go_wp2_with fail
  refine (along_any _ A B D _ c _ d _ f).mono ?_
  rintro e w1 ⟨rfl, hc⟩
  rw [decide_eq_false hbig]
  have HS : Hid (xs.length ≤ 200 ∧ ys.length ≤ 200 ∧ l.length ≤ 200) := Lib.hid (by omega)
  replace C := Lib.hid (C.out.trans hc)
  replace HA := Lib.hid (HA.out.chg hc (by simp))
  replace HB := Lib.hid (HB.out.chg hc (by simp))
  replace HD := Lib.hid (HD.out.chg hc (by simp))
  clear hc hbig
  go_wp2_with fail
  refine (copyspan_any _ A _ c xs HA.out (by have := HS.out; omega)).mono ?_
  rintro e w2 ⟨A0, c0, rfl, hO, hN, hc⟩
  replace C := Lib.hid (C.out.trans hc)
  replace HA := Lib.hid (HA.out.chg hc (by simp))
  replace HB := Lib.hid (HB.out.chg hc (by simp))
  replace HD := Lib.hid (HD.out.chg hc (by simp))
  have HI := Lib.hid hO
  have LI := Lib.hid HI.out.lt_
  have N0 := Lib.hid hN
  clear hO hN hc
  go_wp2_with fail
  refine (copyspan_any _ B _ d ys HB.out (by have := HS.out; omega)).mono ?_
  rintro e w3 ⟨B0, d0, rfl, hO, hN, hc⟩
  replace C := Lib.hid (C.out.trans hc)
  replace HA := Lib.hid (HA.out.chg hc (by simp))
  replace HB := Lib.hid (HB.out.chg hc (by simp))
  replace HD := Lib.hid (HD.out.chg hc (by simp))
  replace HI := Lib.hid (HI.out.chg hc (by simp))
  replace LI := Lib.hid (fun a ha => Nat.lt_of_lt_of_le (LI.out a ha) hc.size)
  have HY := Lib.hid hO
  have LY := Lib.hid HY.out.lt_
  clear hO hN hc
  go_wp2_with fail
  refine (copydot_any _ D _ f l HD.out (by have := HS.out; omega)).mono ?_
  rintro e w4 ⟨D0, f0, rfl, hO, hN, hc⟩
  replace C := Lib.hid (C.out.trans hc)
  replace HA := Lib.hid (HA.out.chg hc (by simp))
  replace HB := Lib.hid (HB.out.chg hc (by simp))
  replace HD := Lib.hid (HD.out.chg hc (by simp))
  replace HI := Lib.hid (HI.out.chg hc (by simp))
  replace LI := Lib.hid (fun a ha => Nat.lt_of_lt_of_le (LI.out a ha) hc.size)
  replace HY := Lib.hid (HY.out.chg hc (by simp))
  replace LY := Lib.hid (fun a ha => Nat.lt_of_lt_of_le (LY.out a ha) hc.size)
  have HL := Lib.hid hO
  have LL := Lib.hid HL.out.lt_
  have C4 := C
  have LI4 := LI
  have LY4 := LY
  have LL4 := LL
  clear hO hN hc
  go_wp2_with fail
  refine (paof_any _ D0 f0 l HL.out.reads (by have := HS.out; omega)).mono ?_
  rintro e w5 ⟨AX, cX, rfl, hO, hN, hc⟩
  replace C := Lib.hid (C.out.trans hc)
  have S45 : Hid (w4.heap.size ≤ w5.heap.size) := Lib.hid hc.size
  replace HA := Lib.hid (HA.out.chg hc (by simp))
  replace HB := Lib.hid (HB.out.chg hc (by simp))
  replace HD := Lib.hid (HD.out.chg hc (by simp))
  replace HI := Lib.hid (HI.out.chg hc (by simp))
  replace LI := Lib.hid (fun a ha => Nat.lt_of_lt_of_le (LI.out a ha) hc.size)
  replace HY := Lib.hid (HY.out.chg hc (by simp))
  replace LY := Lib.hid (fun a ha => Nat.lt_of_lt_of_le (LY.out a ha) hc.size)
  replace HL := Lib.hid (HL.out.chg hc (by simp))
  replace LL := Lib.hid (fun a ha => Nat.lt_of_lt_of_le (LL.out a ha) hc.size)
  have HX := Lib.hid hO
  clear hO hN hc
  go_wp2_with fail
  refine (qof_any _ D f l HD.out (by have := HS.out; omega)).mono ?_
  rintro e w6 ⟨AZ, cZ, rfl, hO, hN, hc⟩
  replace C := Lib.hid (C.out.trans hc)
  have S46 : Hid (w4.heap.size ≤ w6.heap.size) := Lib.hid (Nat.le_trans S45.out hc.size)
  have CS6 := Lib.hid C.out.size
  replace HA := Lib.hid (HA.out.chg hc (by simp))
  replace HB := Lib.hid (HB.out.chg hc (by simp))
  replace HD := Lib.hid (HD.out.chg hc (by simp))
  replace HI := Lib.hid (HI.out.chg hc (by simp))
  replace LI := Lib.hid (fun a ha => Nat.lt_of_lt_of_le (LI.out a ha) hc.size)
  replace HY := Lib.hid (HY.out.chg hc (by simp))
  replace LY := Lib.hid (fun a ha => Nat.lt_of_lt_of_le (LY.out a ha) hc.size)
  replace HL := Lib.hid (HL.out.chg hc (by simp))
  replace LL := Lib.hid (fun a ha => Nat.lt_of_lt_of_le (LL.out a ha) hc.size)
  replace HX := Lib.hid (HX.out.chg hc (by simp))
  have HZ := Lib.hid hO
  have XL : Hid ((ofE l).2.length ≤ 4000) := Lib.hid (ofE_len l)
  clear hO hN hc
  generalize (ofE l).2 = X at *
  generalize (ofE l).1 = ex at *
  go_wp2_with fail
  refine (join_any _ A0 c0 xs B0 d0 ys HI.out.reads HI.out.cap LI.out HY.out.reads HY.out.cap LY.out (by have := HS.out; omega) (by have := HS.out; omega)).mono ?_
  rintro e w7 ⟨AJ, cJ, rfl, hO, hN, hc⟩
  replace C := Lib.hid (C.out.trans hc)
  have S47 : Hid (w4.heap.size ≤ w7.heap.size) := Lib.hid (Nat.le_trans S46.out hc.size)
  replace HA := Lib.hid (HA.out.chg hc (by simp))
  replace HB := Lib.hid (HB.out.chg hc (by simp))
  replace HD := Lib.hid (HD.out.chg hc (by simp))
  replace HI := Lib.hid (HI.out.chg hc (by simp))
  replace LI := Lib.hid (fun a ha => Nat.lt_of_lt_of_le (LI.out a ha) hc.size)
  replace HY := Lib.hid (HY.out.chg hc (by simp))
  replace LY := Lib.hid (fun a ha => Nat.lt_of_lt_of_le (LY.out a ha) hc.size)
  replace HL := Lib.hid (HL.out.chg hc (by simp))
  replace LL := Lib.hid (fun a ha => Nat.lt_of_lt_of_le (LL.out a ha) hc.size)
  replace HX := Lib.hid (HX.out.chg hc (by simp))
  replace HZ := Lib.hid (HZ.out.chg hc (by simp))
  have HJ := Lib.hid hO
  have LJ := Lib.hid HJ.out.lt_
  have NJ := Lib.hid hN
  clear hO hN hc
  go_wp2_with fail
  refine (qjoin_any _ A c xs B d ys HA.out HB.out (by have := HS.out; omega) (by have := HS.out; omega)).mono ?_
  rintro e w8 ⟨AK, cK, rfl, hO, hN, hc⟩
  replace C := Lib.hid (C.out.trans hc)
  have S48 : Hid (w4.heap.size ≤ w8.heap.size) := Lib.hid (Nat.le_trans S47.out hc.size)
  have CS8 := Lib.hid C.out.size
  replace HA := Lib.hid (HA.out.chg hc (by simp))
  replace HB := Lib.hid (HB.out.chg hc (by simp))
  replace HD := Lib.hid (HD.out.chg hc (by simp))
  replace HI := Lib.hid (HI.out.chg hc (by simp))
  replace LI := Lib.hid (fun a ha => Nat.lt_of_lt_of_le (LI.out a ha) hc.size)
  replace HY := Lib.hid (HY.out.chg hc (by simp))
  replace LY := Lib.hid (fun a ha => Nat.lt_of_lt_of_le (LY.out a ha) hc.size)
  replace HL := Lib.hid (HL.out.chg hc (by simp))
  replace LL := Lib.hid (fun a ha => Nat.lt_of_lt_of_le (LL.out a ha) hc.size)
  replace HX := Lib.hid (HX.out.chg hc (by simp))
  replace HZ := Lib.hid (HZ.out.chg hc (by simp))
  replace HJ := Lib.hid (HJ.out.chg hc (by simp))
  replace LJ := Lib.hid (fun a ha => Nat.lt_of_lt_of_le (LJ.out a ha) hc.size)
  have HK := Lib.hid hO
  have JL : Hid ((joinE xs ys).2.length ≤ 4000) := Lib.hid (joinE_len _ _)
  clear hO hN hc
  generalize (joinE xs ys).2 = J at *
  generalize (joinE xs ys).1 = ej at *
  have LJ8 := LJ
  go_wp2_with fail
  refine (minus_any _ A0 c0 xs B0 d0 ys HI.out.reads HI.out.cap LI.out HY.out.reads HY.out.cap LY.out (by have := HS.out; omega) (by have := HS.out; omega)).mono ?_
  rintro e w9 ⟨AM, cM, rfl, hO, hN, hc⟩
  replace C := Lib.hid (C.out.trans hc)
  replace HA := Lib.hid (HA.out.chg hc (by simp))
  replace HB := Lib.hid (HB.out.chg hc (by simp))
  replace HD := Lib.hid (HD.out.chg hc (by simp))
  replace HI := Lib.hid (HI.out.chg hc (by simp))
  replace LI := Lib.hid (fun a ha => Nat.lt_of_lt_of_le (LI.out a ha) hc.size)
  replace HY := Lib.hid (HY.out.chg hc (by simp))
  replace LY := Lib.hid (fun a ha => Nat.lt_of_lt_of_le (LY.out a ha) hc.size)
  replace HL := Lib.hid (HL.out.chg hc (by simp))
  replace LL := Lib.hid (fun a ha => Nat.lt_of_lt_of_le (LL.out a ha) hc.size)
  replace HX := Lib.hid (HX.out.chg hc (by simp))
  replace HZ := Lib.hid (HZ.out.chg hc (by simp))
  replace HJ := Lib.hid (HJ.out.chg hc (by simp))
  replace LJ := Lib.hid (fun a ha => Nat.lt_of_lt_of_le (LJ.out a ha) hc.size)
  replace HK := Lib.hid (HK.out.chg hc (by simp))
  have HM := Lib.hid hO
  have NM := Lib.hid hN
  clear hO hN hc
  go_wp2_with fail
  refine (qminus_any _ A c xs B d ys HA.out HB.out (by have := HS.out; omega) (by have := HS.out; omega)).mono ?_
  rintro e w10 ⟨AO, cO, rfl, hO, hN, hc⟩
  replace C := Lib.hid (C.out.trans hc)
  replace HA := Lib.hid (HA.out.chg hc (by simp))
  replace HB := Lib.hid (HB.out.chg hc (by simp))
  replace HD := Lib.hid (HD.out.chg hc (by simp))
  replace HI := Lib.hid (HI.out.chg hc (by simp))
  replace LI := Lib.hid (fun a ha => Nat.lt_of_lt_of_le (LI.out a ha) hc.size)
  replace HY := Lib.hid (HY.out.chg hc (by simp))
  replace LY := Lib.hid (fun a ha => Nat.lt_of_lt_of_le (LY.out a ha) hc.size)
  replace HL := Lib.hid (HL.out.chg hc (by simp))
  replace LL := Lib.hid (fun a ha => Nat.lt_of_lt_of_le (LL.out a ha) hc.size)
  replace HX := Lib.hid (HX.out.chg hc (by simp))
  replace HZ := Lib.hid (HZ.out.chg hc (by simp))
  replace HJ := Lib.hid (HJ.out.chg hc (by simp))
  replace LJ := Lib.hid (fun a ha => Nat.lt_of_lt_of_le (LJ.out a ha) hc.size)
  replace HK := Lib.hid (HK.out.chg hc (by simp))
  replace HM := Lib.hid (HM.out.chg hc (by simp))
  have HO := Lib.hid hO
  have ML : Hid ((minusE xs ys).2.length ≤ 4000) := Lib.hid (minusE_len _ _)
  clear hO hN hc
  generalize (minusE xs ys).2 = M at *
  generalize (minusE xs ys).1 = em at *
  go_wp2_with fail
  refine (samespan_any _ AX AZ _ _ cX cZ X X HX.out.reads HZ.out.reads (by have := XL.out; omega) (by have := XL.out; omega)).mono ?_
  rintro e w11 ⟨rfl, hc⟩
  rw [show (X == X) = true by simp]
  replace C := Lib.hid (C.out.trans hc)
  replace HA := Lib.hid (HA.out.chg hc (by simp))
  replace HB := Lib.hid (HB.out.chg hc (by simp))
  replace HD := Lib.hid (HD.out.chg hc (by simp))
  replace HI := Lib.hid (HI.out.chg hc (by simp))
  replace LI := Lib.hid (fun a ha => Nat.lt_of_lt_of_le (LI.out a ha) hc.size)
  replace HY := Lib.hid (HY.out.chg hc (by simp))
  replace LY := Lib.hid (fun a ha => Nat.lt_of_lt_of_le (LY.out a ha) hc.size)
  replace HL := Lib.hid (HL.out.chg hc (by simp))
  replace LL := Lib.hid (fun a ha => Nat.lt_of_lt_of_le (LL.out a ha) hc.size)
  replace HX := Lib.hid (HX.out.chg hc (by simp))
  replace HZ := Lib.hid (HZ.out.chg hc (by simp))
  replace HJ := Lib.hid (HJ.out.chg hc (by simp))
  replace LJ := Lib.hid (fun a ha => Nat.lt_of_lt_of_le (LJ.out a ha) hc.size)
  replace HK := Lib.hid (HK.out.chg hc (by simp))
  replace HM := Lib.hid (HM.out.chg hc (by simp))
  replace HO := Lib.hid (HO.out.chg hc (by simp))
  clear hc HX HZ XL
  go_wp2_with fail
  refine (samespan_any _ AJ AK _ _ cJ cK J J HJ.out.reads HK.out.reads (by have := JL.out; omega) (by have := JL.out; omega)).mono ?_
  rintro e w12 ⟨rfl, hc⟩
  rw [show (J == J) = true by simp]
  replace C := Lib.hid (C.out.trans hc)
  replace HA := Lib.hid (HA.out.chg hc (by simp))
  replace HB := Lib.hid (HB.out.chg hc (by simp))
  replace HD := Lib.hid (HD.out.chg hc (by simp))
  replace HI := Lib.hid (HI.out.chg hc (by simp))
  replace LI := Lib.hid (fun a ha => Nat.lt_of_lt_of_le (LI.out a ha) hc.size)
  replace HY := Lib.hid (HY.out.chg hc (by simp))
  replace LY := Lib.hid (fun a ha => Nat.lt_of_lt_of_le (LY.out a ha) hc.size)
  replace HL := Lib.hid (HL.out.chg hc (by simp))
  replace LL := Lib.hid (fun a ha => Nat.lt_of_lt_of_le (LL.out a ha) hc.size)
  replace HJ := Lib.hid (HJ.out.chg hc (by simp))
  replace LJ := Lib.hid (fun a ha => Nat.lt_of_lt_of_le (LJ.out a ha) hc.size)
  replace HK := Lib.hid (HK.out.chg hc (by simp))
  replace HM := Lib.hid (HM.out.chg hc (by simp))
  replace HO := Lib.hid (HO.out.chg hc (by simp))
  clear hc HK
  go_wp2_with fail
  refine (samespan_any _ AM AO _ _ cM cO M M HM.out.reads HO.out.reads (by have := ML.out; omega) (by have := ML.out; omega)).mono ?_
  rintro e w13 ⟨rfl, hc⟩
  rw [show (M == M) = true by simp]
  replace C := Lib.hid (C.out.trans hc)
  replace HA := Lib.hid (HA.out.chg hc (by simp))
  replace HB := Lib.hid (HB.out.chg hc (by simp))
  replace HD := Lib.hid (HD.out.chg hc (by simp))
  replace HI := Lib.hid (HI.out.chg hc (by simp))
  replace LI := Lib.hid (fun a ha => Nat.lt_of_lt_of_le (LI.out a ha) hc.size)
  replace HY := Lib.hid (HY.out.chg hc (by simp))
  replace LY := Lib.hid (fun a ha => Nat.lt_of_lt_of_le (LY.out a ha) hc.size)
  replace HL := Lib.hid (HL.out.chg hc (by simp))
  replace LL := Lib.hid (fun a ha => Nat.lt_of_lt_of_le (LL.out a ha) hc.size)
  replace HJ := Lib.hid (HJ.out.chg hc (by simp))
  replace LJ := Lib.hid (fun a ha => Nat.lt_of_lt_of_le (LJ.out a ha) hc.size)
  replace HM := Lib.hid (HM.out.chg hc (by simp))
  replace HO := Lib.hid (HO.out.chg hc (by simp))
  clear hc HO
  go_wp2_with fail
  refine (overspan_own _ AJ _ cJ _ HJ.out rfl).mono ?_
  rintro e w14 ⟨rfl, h9⟩
  obtain ⟨S, hS, h9⟩ := over_only h9
  have hS2 : ∀ i ∈ S, w6.heap.size ≤ i := fun i hi => by obtain ⟨a, ha, e⟩ := hS i hi; rw [← e]; exact NJ.out a ha
  have C46 : w4.heap.size ≤ w6.heap.size := S46.out
  replace C := Lib.hid (C.out.trans' h9 (fun i hi => .inr (Nat.le_trans CS6.out (hS2 i hi))))
  replace HI := Lib.hid (HI.out.chg h9 (fun a ha hin => absurd (hS2 _ hin) (Nat.not_le.2 (Nat.lt_of_lt_of_le (LI4.out a ha) C46))))
  replace HY := Lib.hid (HY.out.chg h9 (fun a ha hin => absurd (hS2 _ hin) (Nat.not_le.2 (Nat.lt_of_lt_of_le (LY4.out a ha) C46))))
  replace HL := Lib.hid (HL.out.chg h9 (fun a ha hin => absurd (hS2 _ hin) (Nat.not_le.2 (Nat.lt_of_lt_of_le (LL4.out a ha) C46))))
  replace HA := Lib.hid (HA0.out.chg C.out (by simp))
  replace HB := Lib.hid (HB0.out.chg C.out (by simp))
  replace HD := Lib.hid (HD0.out.chg C.out (by simp))
  replace HM := Lib.hid (HM.out.chg h9 (fun a ha hin => by
    obtain ⟨u, hu, e⟩ := hS _ hin
    have p := LJ8.out u hu
    have q := NM.out a ha
    omega))
  clear HJ NJ h9 hS hS2
  go_wp2_with fail
  refine (overspan_own _ AM _ cM _ HM.out rfl).mono ?_
  rintro e w15 ⟨rfl, h9⟩
  obtain ⟨S, hS, h9⟩ := over_only h9
  have hS2 : ∀ i ∈ S, w8.heap.size ≤ i := fun i hi => by obtain ⟨a, ha, e⟩ := hS i hi; rw [← e]; exact NM.out a ha
  have C48 : w4.heap.size ≤ w8.heap.size := S48.out
  replace C := Lib.hid (C.out.trans' h9 (fun i hi => .inr (Nat.le_trans CS8.out (hS2 i hi))))
  replace HI := Lib.hid (HI.out.chg h9 (fun a ha hin => absurd (hS2 _ hin) (Nat.not_le.2 (Nat.lt_of_lt_of_le (LI4.out a ha) C48))))
  replace HY := Lib.hid (HY.out.chg h9 (fun a ha hin => absurd (hS2 _ hin) (Nat.not_le.2 (Nat.lt_of_lt_of_le (LY4.out a ha) C48))))
  replace HL := Lib.hid (HL.out.chg h9 (fun a ha hin => absurd (hS2 _ hin) (Nat.not_le.2 (Nat.lt_of_lt_of_le (LL4.out a ha) C48))))
  replace HA := Lib.hid (HA0.out.chg C.out (by simp))
  replace HB := Lib.hid (HB0.out.chg C.out (by simp))
  replace HD := Lib.hid (HD0.out.chg C.out (by simp))
  replace LI := Lib.hid HI.out.lt_
  replace LY := Lib.hid HY.out.lt_
  clear HM NM h9 hS hS2 LI4 LY4 LL4 LJ LJ8
  go_wp2_with fail
  refine (samespan_any _ A0 A _ _ c0 c xs xs HI.out.reads HA.out (by have := HS.out; omega) (by have := HS.out; omega)).mono ?_
  rintro e w16 ⟨rfl, hc⟩
  rw [show (xs == xs) = true by simp]
  replace C := Lib.hid (C.out.trans hc)
  replace HA := Lib.hid (HA.out.chg hc (by simp))
  replace HB := Lib.hid (HB.out.chg hc (by simp))
  replace HD := Lib.hid (HD.out.chg hc (by simp))
  replace HI := Lib.hid (HI.out.chg hc (by simp))
  replace LI := Lib.hid (fun a ha => Nat.lt_of_lt_of_le (LI.out a ha) hc.size)
  replace HY := Lib.hid (HY.out.chg hc (by simp))
  replace LY := Lib.hid (fun a ha => Nat.lt_of_lt_of_le (LY.out a ha) hc.size)
  replace HL := Lib.hid (HL.out.chg hc (by simp))
  clear hc
  go_wp2_with fail
  refine (samespan_any _ B0 B _ _ d0 d ys ys HY.out.reads HB.out (by have := HS.out; omega) (by have := HS.out; omega)).mono ?_
  rintro e w17 ⟨rfl, hc⟩
  rw [show (ys == ys) = true by simp]
  replace C := Lib.hid (C.out.trans hc)
  replace HA := Lib.hid (HA.out.chg hc (by simp))
  replace HB := Lib.hid (HB.out.chg hc (by simp))
  replace HD := Lib.hid (HD.out.chg hc (by simp))
  replace HI := Lib.hid (HI.out.chg hc (by simp))
  replace LI := Lib.hid (fun a ha => Nat.lt_of_lt_of_le (LI.out a ha) hc.size)
  replace HY := Lib.hid (HY.out.chg hc (by simp))
  replace LY := Lib.hid (fun a ha => Nat.lt_of_lt_of_le (LY.out a ha) hc.size)
  replace HL := Lib.hid (HL.out.chg hc (by simp))
  clear hc
  go_wp2_with fail
  refine (samedot_any _ D0 D _ _ f0 f l l HL.out.reads HD.out (by have := HS.out; omega) (by have := HS.out; omega)).mono ?_
  rintro e w18 ⟨rfl, hc⟩
  rw [show (l == l) = true by simp]
  replace C := Lib.hid (C.out.trans hc)
  replace HA := Lib.hid (HA.out.chg hc (by simp))
  replace HB := Lib.hid (HB.out.chg hc (by simp))
  replace HD := Lib.hid (HD.out.chg hc (by simp))
  replace HI := Lib.hid (HI.out.chg hc (by simp))
  replace LI := Lib.hid (fun a ha => Nat.lt_of_lt_of_le (LI.out a ha) hc.size)
  replace HY := Lib.hid (HY.out.chg hc (by simp))
  replace LY := Lib.hid (fun a ha => Nat.lt_of_lt_of_le (LY.out a ha) hc.size)
  replace HL := Lib.hid (HL.out.chg hc (by simp))
  clear hc
  generalize hck : chkS xs = ck
  have CK := Lib.hid hck
  clear hck
  go_wp2_with fail
  refine (pacheck_any _ A0 _ c0 xs HI.out.reads (by have := HS.out; omega)).mono ?_
  rintro e w19 ⟨rfl, hc⟩
  rw [CK.out]
  replace C := Lib.hid (C.out.trans hc)
  replace HA := Lib.hid (HA.out.chg hc (by simp))
  replace HB := Lib.hid (HB.out.chg hc (by simp))
  replace HD := Lib.hid (HD.out.chg hc (by simp))
  replace HI := Lib.hid (HI.out.chg hc (by simp))
  replace LI := Lib.hid (fun a ha => Nat.lt_of_lt_of_le (LI.out a ha) hc.size)
  replace HY := Lib.hid (HY.out.chg hc (by simp))
  replace LY := Lib.hid (fun a ha => Nat.lt_of_lt_of_le (LY.out a ha) hc.size)
  replace HL := Lib.hid (HL.out.chg hc (by simp))
  clear hc
  go_wp2_with fail
  refine (qacheck_any _ A _ c xs HA.out (by have := HS.out; omega)).mono ?_
  rintro e w20 ⟨rfl, hc⟩
  rw [CK.out]
  replace C := Lib.hid (C.out.trans hc)
  replace HA := Lib.hid (HA.out.chg hc (by simp))
  replace HB := Lib.hid (HB.out.chg hc (by simp))
  replace HD := Lib.hid (HD.out.chg hc (by simp))
  replace HI := Lib.hid (HI.out.chg hc (by simp))
  replace LI := Lib.hid (fun a ha => Nat.lt_of_lt_of_le (LI.out a ha) hc.size)
  replace HY := Lib.hid (HY.out.chg hc (by simp))
  replace LY := Lib.hid (fun a ha => Nat.lt_of_lt_of_le (LY.out a ha) hc.size)
  replace HL := Lib.hid (HL.out.chg hc (by simp))
  clear hc
  go_wp2_with fail
  refine (within_any _ A0 c0 xs B0 d0 ys HI.out.reads HI.out.cap LI.out HY.out.reads HY.out.cap LY.out (by have := HS.out; omega) (by have := HS.out; omega)).mono ?_
  rintro e w21 ⟨rfl, hc⟩
  replace C := Lib.hid (C.out.trans hc)
  replace HA := Lib.hid (HA.out.chg hc (by simp))
  replace HB := Lib.hid (HB.out.chg hc (by simp))
  replace HD := Lib.hid (HD.out.chg hc (by simp))
  replace HI := Lib.hid (HI.out.chg hc (by simp))
  replace LI := Lib.hid (fun a ha => Nat.lt_of_lt_of_le (LI.out a ha) hc.size)
  replace HY := Lib.hid (HY.out.chg hc (by simp))
  replace LY := Lib.hid (fun a ha => Nat.lt_of_lt_of_le (LY.out a ha) hc.size)
  replace HL := Lib.hid (HL.out.chg hc (by simp))
  clear hc
  go_wp2_with fail
  refine (qwithin_any _ A c xs B d ys HA.out HB.out (by have := HS.out; omega) (by have := HS.out; omega)).mono ?_
  rintro e w22 ⟨rfl, hc⟩
  replace C := Lib.hid (C.out.trans hc)
  replace HA := Lib.hid (HA.out.chg hc (by simp))
  replace HB := Lib.hid (HB.out.chg hc (by simp))
  replace HD := Lib.hid (HD.out.chg hc (by simp))
  replace HI := Lib.hid (HI.out.chg hc (by simp))
  replace LI := Lib.hid (fun a ha => Nat.lt_of_lt_of_le (LI.out a ha) hc.size)
  replace HY := Lib.hid (HY.out.chg hc (by simp))
  replace LY := Lib.hid (fun a ha => Nat.lt_of_lt_of_le (LY.out a ha) hc.size)
  replace HL := Lib.hid (HL.out.chg hc (by simp))
  clear hc
  generalize withinE xs ys = wi
  go_wp2_with fail
  refine (l7awake_run _).mono ?_
  rintro e w23 ⟨rfl, hc⟩
  replace C := Lib.hid (C.out.trans hc)
  clear hc
  go_wp2
  go_ret
  exact ⟨(by first | rfl | simp), C.out⟩
end
section
open Go.RowKit Go.WideShapes Go.ChangeShapes Go.Deep
section
variable {H : Type} {enc : TypeId × Value → H} {P : Program} {w : World} {base : Nat} {spare : Nat → Bool} {held : Bool}

theorem weights_all_mem {e : TypeId} : ∀ {l : List (DataW H)} {d : DataW H}, d ∈ l → ∀ n ∈ d.weights P e, n ∈ DataW.weightsAll P e l
  | x :: l, d, hd, n, hn => by
    simp only [DataW.weightsAll, List.mem_append]
    rcases List.mem_cons.1 hd with rfl | h
    · exact .inl hn
    · exact .inr (weights_all_mem h n hn)
theorem weights_slice {t e : TypeId} (ht : P.underlying t = some (.slice e)) {xs ys : List (DataW H)} (hz : ∀ k ∈ (DataW.slice xs ys).weights P t, k ≤ reachBytes) :
    (xs.length + ys.length) * P.bytesOf e ≤ reachBytes ∧ ∀ d ∈ xs, ∀ k ∈ d.weights P e, k ≤ reachBytes := by
  simp only [DataW.weights, ht, List.mem_cons, List.mem_append] at hz
  exact ⟨hz _ (.inl rfl), fun d hd k hk => hz k (.inr (.inl (weights_all_mem hd k hk)))⟩
/-- A list of what is there for every number. -/
theorem list_of {α : Type} {Q : Nat → α → Prop} : ∀ (n : Nat), (∀ i, i < n → ∃ a, Q i a) → ∃ l : List α, l.length = n ∧ ∀ j a, l[j]? = some a → Q j a
  | 0, _ => ⟨[], rfl, by simp⟩
  | n + 1, h => by
    obtain ⟨l, h1, h2⟩ := list_of n (fun i hi => h i (by omega))
    obtain ⟨a, ha⟩ := h n (by omega)
    refine ⟨l ++ [a], by simp [h1], fun j b hj => ?_⟩
    rw [List.getElem?_append] at hj
    split at hj
    · exact h2 j b hj
    · rename_i hn
      have : j = n := by
        have := (List.getElem?_eq_some_iff.1 hj).1
        simp at this
        omega
      subst this
      rw [h1] at hj
      simp at hj
      subst hj
      exact ha
end
section
variable {H : Type} {enc : TypeId × Value → H} {w : World} {base : Nat} {spare : Nat → Bool} {held : Bool}

set_option maxRecDepth 100000 in
/-- A dot's two cells. -/
theorem open_dot {n : Nat} {cs : List Value} {y : DataW H × List MemPlace} (h : DataW.trod enc Try.prog w base spare held n 37 cs = some y) :
    ∃ (a b : Int), cs = [.int .i64 a, .int .i64 b] ∧ -9223372036854775808 ≤ a ∧ a ≤ 9223372036854775807 ∧ -9223372036854775808 ≤ b ∧ b ≤ 9223372036854775807 := by
  obtain ⟨xs, k, rfl, rfl, hl, hx, hf⟩ := DataW.trod_struct Try.underlying37 h
  rw [show Try.prog.cellsOf 37 = 2 by kernel_rfl] at hl
  have g0 := hf 0 _ rfl
  have g1 := hf 1 _ rfl
  change DataW.trod _ _ _ _ _ _ _ 3 ((cs.drop 0).take (Try.prog.cellsOf 3)) = _ at g0
  change DataW.trod _ _ _ _ _ _ _ 3 ((cs.drop 1).take (Try.prog.cellsOf 3)) = _ at g1
  rw [show Try.prog.cellsOf 3 = 1 by kernel_rfl] at g0 g1
  match cs, hl with
  | [v0, v1], _ =>
    match xs, hx with
    | [x0, x1], _ =>
      obtain ⟨z0, e0, _, b0⟩ := DataW.trod_int Try.underlying3 g0
      obtain ⟨z1, e1, _, b1⟩ := DataW.trod_int Try.underlying3 g1
      have c0 := bounds_i64 b0
      have c1 := bounds_i64 b1
      simp only [List.drop_succ_cons, List.drop_zero, List.take_succ_cons, List.take_zero, List.cons.injEq, and_true] at e0 e1
      subst e0 e1
      exact ⟨z0, z1, rfl, c0.1, c0.2, c1.1, c1.2⟩
end
end
section
open Go.RowKit Go.WideShapes Go.ChangeShapes Go.Deep
set_option linter.unusedSimpArgs false
section
variable {H : Type} {enc : TypeId × Value → H} {w : World} {base : Nat} {spare : Nat → Bool} {held : Bool}
set_option maxRecDepth 100000 in
/-- A span's three cells. -/
theorem open_span {n : Nat} {cs : List Value} {y : DataW H × List MemPlace} (h : DataW.trod enc Try.prog w base spare held n 62 cs = some y) :
    ∃ (a b c : Int), cs = [.int .i64 a, .int .i64 b, .int .i64 c] := by
  obtain ⟨xs, k, rfl, rfl, hl, hx, hf⟩ := DataW.trod_struct Try.underlying62 h
  rw [show Try.prog.cellsOf 62 = 3 by kernel_rfl] at hl
  have g0 := hf 0 _ rfl
  have g1 := hf 1 _ rfl
  have g2 := hf 2 _ rfl
  change DataW.trod _ _ _ _ _ _ _ 3 ((cs.drop 0).take (Try.prog.cellsOf 3)) = _ at g0
  change DataW.trod _ _ _ _ _ _ _ 3 ((cs.drop 1).take (Try.prog.cellsOf 3)) = _ at g1
  change DataW.trod _ _ _ _ _ _ _ 3 ((cs.drop 2).take (Try.prog.cellsOf 3)) = _ at g2
  rw [show Try.prog.cellsOf 3 = 1 by kernel_rfl] at g0 g1 g2
  match cs, hl with
  | [v0, v1, v2], _ =>
    match xs, hx with
    | [x0, x1, x2], _ =>
      obtain ⟨z0, e0, _, _⟩ := DataW.trod_int Try.underlying3 g0
      obtain ⟨z1, e1, _, _⟩ := DataW.trod_int Try.underlying3 g1
      obtain ⟨z2, e2, _, _⟩ := DataW.trod_int Try.underlying3 g2
      simp only [List.drop_succ_cons, List.drop_zero, List.take_succ_cons, List.take_zero, List.cons.injEq, and_true] at e0 e1 e2
      subst e0 e1 e2
      exact ⟨z0, z1, z2, rfl⟩
theorem open_spans {n : Nat} {cs : List Value} {y : DataW H × List MemPlace} (h : DataW.trod enc Try.prog w base spare held n 22 cs = some y) (hz : ∀ k ∈ y.1.weights Try.prog 22, k ≤ reachBytes) :
    ∃ A m d zs, cs = [.slice A m d] ∧ RdK spanTy w A m zs ∧ m * 24 ≤ 140737488351232 ∧ m ≤ d := by
  rcases open_slice Try.underlying22 h with ⟨rfl, _⟩ | ⟨a, len, cap, m, k, D, Pl, rfl, _, hl, hm, hmm, rfl, hi⟩
  · exact ⟨none, 0, 0, [], rfl, RdK.nil _ _, by decide, by decide⟩
  · have hlm : len ≤ m := by rw [hmm]; split <;> omega
    obtain ⟨hw, _⟩ := weights_slice Try.underlying22 hz
    rw [show Try.prog.bytesOf 62 = 24 by kernel_rfl] at hw
    simp [reachBytes] at hw
    have hC : Try.prog.cellsOf 62 = 3 := by kernel_rfl
    obtain ⟨l, hll, hat⟩ := list_of (Q := fun i (x : Int × Int × Int) => w.cell? (a.add (i * 3)) = some (.int .i64 x.1) ∧ w.cell? (a.add (i * 3 + 1)) = some (.int .i64 x.2.1) ∧ w.cell? (a.add (i * 3 + 2)) = some (.int .i64 x.2.2)) len (fun i hilt => by
      obtain ⟨cs', hc, ht⟩ := hi i (by omega)
      rw [hC] at hc
      obtain ⟨_, hcl, hat⟩ := World.cells?_some hc
      obtain ⟨p, q, r, rfl⟩ := open_span ht
      have g0 := hat 0 (by omega)
      have g1 := hat 1 (by omega)
      have g2 := hat 2 (by omega)
      rw [add_add] at g0 g1 g2
      exact ⟨(p, q, r), g0, g1, g2⟩)
    refine ⟨some a, len, cap, l, rfl, ⟨hll, fun j v hj => ⟨a, rfl, ?_⟩⟩, by omega, hl⟩
    have hj2 := (List.getElem?_eq_some_iff.1 hj).1
    rw [spanTy.flat_len] at hj2
    have hk : spanTy.k = 3 := rfl
    rw [hk] at hj2
    have hq : j / 3 < l.length := by omega
    have e := spanTy.flat_at l (j / 3) (j % 3) _ (List.getElem?_eq_getElem hq) (Nat.mod_lt _ (by decide))
    rw [hk, Nat.div_add_mod', hj] at e
    obtain ⟨g0, g1, g2⟩ := hat (j / 3) _ (List.getElem?_eq_getElem hq)
    rcases (show j % 3 = 0 ∨ j % 3 = 1 ∨ j % 3 = 2 by omega) with h0 | h0 | h0
    · rw [h0] at e
      rw [show j / 3 * 3 = j by omega] at g0
      rw [g0]
      exact e.symm
    · rw [h0] at e
      rw [show j / 3 * 3 + 1 = j by omega] at g1
      rw [g1]
      exact e.symm
    · rw [h0] at e
      rw [show j / 3 * 3 + 2 = j by omega] at g2
      rw [g2]
      exact e.symm
end
end
section
open Go.RowKit Go.WideShapes Go.ChangeShapes Go.Deep
set_option linter.unusedSimpArgs false
section
variable {H : Type} {enc : TypeId × Value → H} {w : World} {base : Nat} {spare : Nat → Bool} {held : Bool}
theorem open_dots {n : Nat} {cs : List Value} {y : DataW H × List MemPlace} (h : DataW.trod enc Try.prog w base spare held n 23 cs = some y) (hz : ∀ k ∈ y.1.weights Try.prog 23, k ≤ reachBytes) :
    ∃ A m d zs, cs = [.slice A m d] ∧ RdK dotTy w A m zs ∧ m * 16 ≤ 140737488351232 ∧ m ≤ d := by
  rcases open_slice Try.underlying23 h with ⟨rfl, _⟩ | ⟨a, len, cap, m, k, D, Pl, rfl, _, hl, hm, hmm, rfl, hi⟩
  · exact ⟨none, 0, 0, [], rfl, RdK.nil _ _, by decide, by decide⟩
  · have hlm : len ≤ m := by rw [hmm]; split <;> omega
    obtain ⟨hw, _⟩ := weights_slice Try.underlying23 hz
    rw [show Try.prog.bytesOf 37 = 16 by kernel_rfl] at hw
    simp [reachBytes] at hw
    have hC : Try.prog.cellsOf 37 = 2 := by kernel_rfl
    obtain ⟨l, hll, hat⟩ := list_of (Q := fun i (x : Int × Int) => w.cell? (a.add (i * 2)) = some (.int .i64 x.1) ∧ w.cell? (a.add (i * 2 + 1)) = some (.int .i64 x.2)) len (fun i hilt => by
      obtain ⟨cs', hc, ht⟩ := hi i (by omega)
      rw [hC] at hc
      obtain ⟨_, hcl, hat⟩ := World.cells?_some hc
      obtain ⟨p, q, rfl, _⟩ := open_dot ht
      have g0 := hat 0 (by omega)
      have g1 := hat 1 (by omega)
      rw [add_add] at g0 g1
      exact ⟨(p, q), g0, g1⟩)
    refine ⟨some a, len, cap, l, rfl, ⟨hll, fun j v hj => ⟨a, rfl, ?_⟩⟩, by omega, hl⟩
    have hj2 := (List.getElem?_eq_some_iff.1 hj).1
    rw [dotTy.flat_len] at hj2
    have hk : dotTy.k = 2 := rfl
    rw [hk] at hj2
    have hq : j / 2 < l.length := by omega
    have e := dotTy.flat_at l (j / 2) (j % 2) _ (List.getElem?_eq_getElem hq) (Nat.mod_lt _ (by decide))
    rw [hk, Nat.div_add_mod', hj] at e
    obtain ⟨g0, g1⟩ := hat (j / 2) _ (List.getElem?_eq_getElem hq)
    rcases (show j % 2 = 0 ∨ j % 2 = 1 by omega) with h0 | h0
    · rw [h0] at e
      rw [show j / 2 * 2 = j by omega] at g0
      rw [g0]
      exact e.symm
    · rw [h0] at e
      rw [show j / 2 * 2 + 1 = j by omega] at g1
      rw [g1]
      exact e.symm
end
end
end Go.Proofs.Ytgafkphhnlifiaa
