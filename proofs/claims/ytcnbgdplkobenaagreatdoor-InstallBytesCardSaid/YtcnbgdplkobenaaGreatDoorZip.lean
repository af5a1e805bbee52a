/- What is answered to calls with just these arguments: the run on marks, reckoned by the kernel. The layer's closed examples: the run on marks, reckoned by the kernel. The layer's closed examples: the run on marks, reckoned by the kernel. What the laws of past have in common. InstallBytes. Arguments opened: bytes, numbers, texts: from the data that a row reads to the cells that a walk goes over. Slices of spans as arguments. An intent as an argument. Nothing is asked of the variables. -/
import Derived.Test.YtcnbgdplkobenaaGreatDoorZio
import Derived.Test.YtcnbgdplkobenaaGreatDoorZic
import Derived.Test.YtcnbgdplkobenaaGreatDoorZib
import Derived.Test.YtcnbgdplkobenaaGreatDoorZii
import Derived.Test.YtcnbgdplkobenaaGreatDoorZij
import Derived.Deep.Cut
import Derived.Deep.RegionHeld3
import Derived.Test.YtcnbgdplkobenaaGreatDoorZia
import Derived.Deep.Slices
import Derived.Deep.Fields
import Derived.ChangeSame
import Derived.SizedLaws
import Derived.ChangeArms
import Derived.ChangeSlices
import Derived.OpenShut
import Derived.ProofKit
import Derived.Test.YtcnbgdplkobenaaGreatDoorZid
import Derived.Test.YtcnbgdplkobenaaGreatDoorLaid0
namespace Go.Proofs.YtcnbgdplkobenaaGreatDoor
section
open Go.RowKit
theorem memo0 (W : World) : Calls Tryz.prog 58 (List.toArray [.string ⟨#[100]⟩]) W fun e w' => e = .returned (.int .i64 (0)) ∧ Chg [] W w' :=
  Ev.closed_val [136] (X := [(217, .overlaps [90, 90] [4]), (226, .compare)]) (M := []) (g := 3) (n := 100000) (by kernel_rfl) (Ev.one_ext Tryz.func217 (by kernel_rfl) (by kernel_rfl) (by kernel_rfl) (by kernel_rfl) (Ev.one_ext Tryz.func226 (by kernel_rfl) (by kernel_rfl) (by kernel_rfl) (by kernel_rfl) (Ev.no_ext _))) (Ev.no_mem _) (by kernel_rfl) (by kernel_rfl) (by kernel_rfl) (by kernel_rfl) W
theorem memo1 (W : World) : Calls Tryz.prog 58 (List.toArray [.string ⟨#[100, 47, 102]⟩]) W fun e w' => e = .returned (.int .i64 (0)) ∧ Chg [] W w' :=
  Ev.closed_val [136] (X := [(217, .overlaps [90, 90] [4]), (226, .compare)]) (M := [(58, [.string ⟨#[100]⟩], .int .i64 (0))]) (g := 3) (n := 100000) (by kernel_rfl) (Ev.one_ext Tryz.func217 (by kernel_rfl) (by kernel_rfl) (by kernel_rfl) (by kernel_rfl) (Ev.one_ext Tryz.func226 (by kernel_rfl) (by kernel_rfl) (by kernel_rfl) (by kernel_rfl) (Ev.no_ext _))) (Ev.one_mem (by kernel_rfl) (by kernel_rfl) memo0 (Ev.no_mem _)) (by kernel_rfl) (by kernel_rfl) (by kernel_rfl) (by kernel_rfl) W
theorem memo2 (W : World) : Calls Tryz.prog 58 (List.toArray [.string ⟨#[]⟩]) W fun e w' => e = .returned (.int .i64 (2)) ∧ Chg [] W w' :=
  Ev.closed_val [136] (X := [(217, .overlaps [90, 90] [4]), (226, .compare)]) (M := [(58, [.string ⟨#[100, 47, 102]⟩], .int .i64 (0)), (58, [.string ⟨#[100]⟩], .int .i64 (0))]) (g := 3) (n := 100000) (by kernel_rfl) (Ev.one_ext Tryz.func217 (by kernel_rfl) (by kernel_rfl) (by kernel_rfl) (by kernel_rfl) (Ev.one_ext Tryz.func226 (by kernel_rfl) (by kernel_rfl) (by kernel_rfl) (by kernel_rfl) (Ev.no_ext _))) (Ev.one_mem (by kernel_rfl) (by kernel_rfl) memo1 (Ev.one_mem (by kernel_rfl) (by kernel_rfl) memo0 (Ev.no_mem _))) (by kernel_rfl) (by kernel_rfl) (by kernel_rfl) (by kernel_rfl) W
theorem memo3 (W : World) : Calls Tryz.prog 59 (List.toArray [.agg #[.int .i64 (2), .int .i64 (0), .slice none 0 0]]) W fun e w' => e = .returned (.int .i64 (0)) ∧ Chg [] W w' :=
  Ev.closed_val [136] (X := [(217, .overlaps [90, 90] [4]), (226, .compare)]) (M := [(58, [.string ⟨#[]⟩], .int .i64 (2)), (58, [.string ⟨#[100, 47, 102]⟩], .int .i64 (0)), (58, [.string ⟨#[100]⟩], .int .i64 (0))]) (g := 3) (n := 100000) (by kernel_rfl) (Ev.one_ext Tryz.func217 (by kernel_rfl) (by kernel_rfl) (by kernel_rfl) (by kernel_rfl) (Ev.one_ext Tryz.func226 (by kernel_rfl) (by kernel_rfl) (by kernel_rfl) (by kernel_rfl) (Ev.no_ext _))) (Ev.one_mem (by kernel_rfl) (by kernel_rfl) memo2 (Ev.one_mem (by kernel_rfl) (by kernel_rfl) memo1 (Ev.one_mem (by kernel_rfl) (by kernel_rfl) memo0 (Ev.no_mem _)))) (by kernel_rfl) (by kernel_rfl) (by kernel_rfl) (by kernel_rfl) W
theorem memo4 (W : World) : Calls Tryz.prog 166 (List.toArray [.agg #[.int .i64 (1), .int .i64 (1), .string ⟨#[100]⟩, .int .i64 (2), .int .i64 (0), .slice none 0 0, .slice none 0 0]]) W fun e w' => e = .returned (.int .i64 (0)) ∧ Chg [] W w' :=
  Ev.closed_val [136] (X := [(217, .overlaps [90, 90] [4]), (226, .compare)]) (M := [(59, [.agg #[.int .i64 (2), .int .i64 (0), .slice none 0 0]], .int .i64 (0)), (58, [.string ⟨#[]⟩], .int .i64 (2)), (58, [.string ⟨#[100, 47, 102]⟩], .int .i64 (0)), (58, [.string ⟨#[100]⟩], .int .i64 (0))]) (g := 3) (n := 100000) (by kernel_rfl) (Ev.one_ext Tryz.func217 (by kernel_rfl) (by kernel_rfl) (by kernel_rfl) (by kernel_rfl) (Ev.one_ext Tryz.func226 (by kernel_rfl) (by kernel_rfl) (by kernel_rfl) (by kernel_rfl) (Ev.no_ext _))) (Ev.one_mem (by kernel_rfl) (by kernel_rfl) memo3 (Ev.one_mem (by kernel_rfl) (by kernel_rfl) memo2 (Ev.one_mem (by kernel_rfl) (by kernel_rfl) memo1 (Ev.one_mem (by kernel_rfl) (by kernel_rfl) memo0 (Ev.no_mem _))))) (by kernel_rfl) (by kernel_rfl) (by kernel_rfl) (by kernel_rfl) W
end
section
open Go.RowKit
theorem installAwake_run (W : World) : Calls Tryz.prog 5 #[] W fun e w' => e = .returned (.bool true) ∧ Chg [] W w' :=
  Ev.closed_callM [136] (M := [(166, [.agg #[.int .i64 (1), .int .i64 (1), .string ⟨#[100]⟩, .int .i64 (2), .int .i64 (0), .slice none 0 0, .slice none 0 0]], .int .i64 (0)), (59, [.agg #[.int .i64 (2), .int .i64 (0), .slice none 0 0]], .int .i64 (0)), (58, [.string ⟨#[]⟩], .int .i64 (2)), (58, [.string ⟨#[100, 47, 102]⟩], .int .i64 (0)), (58, [.string ⟨#[100]⟩], .int .i64 (0))]) (X := [(217, .overlaps [90, 90] [4]), (226, .compare)]) (g := 3) (n := 100000) (by kernel_rfl) (Ev.one_ext Tryz.func217 (by kernel_rfl) (by kernel_rfl) (by kernel_rfl) (by kernel_rfl) (Ev.one_ext Tryz.func226 (by kernel_rfl) (by kernel_rfl) (by kernel_rfl) (by kernel_rfl) (Ev.no_ext _))) (Ev.one_mem (by kernel_rfl) (by kernel_rfl) memo4 (Ev.one_mem (by kernel_rfl) (by kernel_rfl) memo3 (Ev.one_mem (by kernel_rfl) (by kernel_rfl) memo2 (Ev.one_mem (by kernel_rfl) (by kernel_rfl) memo1 (Ev.one_mem (by kernel_rfl) (by kernel_rfl) memo0 (Ev.no_mem _)))))) (by kernel_rfl) (by kernel_rfl) W
end
section
open Go.RowKit
end
section
open Go.RowKit Go.Lib
set_option linter.unusedSimpArgs false
set_option linter.unusedVariables false



theorem Chg.over {w w1 w6 w7 : World} {S : List Nat} (h : Chg [] w w6) (h1 : Chg [] w w1) (hS : ∀ i ∈ S, w1.heap.size ≤ i) (h7 : Chg S w6 w7) : Chg [] w w7 :=
  h.trans' h7 fun i hi => .inr (Nat.le_trans h1.size (hS i hi))
theorem over_only {w6 w7 : World} {A : Option Addr} (h7 : ∀ S : List Nat, (∀ a, A = some a → a.block ∈ S) → Chg S w6 w7) : ∃ S : List Nat, (∀ i ∈ S, ∃ a, A = some a ∧ a.block = i) ∧ Chg S w6 w7 := by
  rcases A with _ | a
  · exact ⟨[], by simp, h7 [] (by simp)⟩
  · exact ⟨[a.block], by simp, h7 [a.block] (by rintro b ⟨⟩; simp)⟩
end
section
open Go.RowKit Go.Lib
set_option linter.unusedSimpArgs false
set_option linter.unusedVariables false


theorem OwnB.lt8_ {w : World} {A : Option Addr} {c : Nat} {xs : List UInt8} (h : OwnB w A c xs) : ∀ a, A = some a → a.block < w.heap.size := by
  rcases h with ⟨rfl, _⟩ | ⟨g, full, rfl, hg, _⟩
  · intro a ha; cases ha
  · intro a ha; cases ha; exact lt_of_heap hg
theorem readI_q (xs : List UInt8) : (readI xs).1.q.length ≤ xs.length := by
  unfold readI
  split
  · simp [zeroI]
  · split
    · have a := readS_bytes (jP xs).1
      have b : (jP xs).1.length ≤ xs.length := (rRaw_le (rRaw_le (rRaw_le (Nat.zero_le _)).2).2).1
      show (readS (jP xs).1).1.length ≤ xs.length
      omega
    · simp [zeroI]
/-- How large an intent is that is handed in. -/
def InZ (x : InT) (e : InP) : Prop := e.b.length ≤ 140737488351232 ∧ e.q.length * 24 ≤ 140737488351232 ∧ e.p.length ≤ 140737488351232

set_option maxRecDepth 100000 in
set_option maxHeartbeats 32000000 in
theorem installbytes_yes (w : World) (x : InT) (e : InP) (D_ : Option Addr) (m d : Nat) (ys : List UInt8) (hx : InR w x e) (hz : InZ x e) (hb : Bs w D_ m ys) (hn : m ≤ 140737488351232) (hc1 : m ≤ d) (hc2 : d ≤ 9223372036854775807) :
    Calls Tryz.prog 3 #[.agg #[.string x.p, .int .i64 x.k, .int .i64 x.m, .slice x.A x.l x.c, .slice x.B x.bl x.bc, .int .i64 x.t], .slice D_ m d] w fun r w' => r = .returned (.bool true) ∧ Chg [] w w' := by
  have hl := hb.len
  subst hl
  obtain ⟨w1, hw, hc, b0⟩ := news1 w (.cells #[.string x.p, .int .i64 x.k, .int .i64 x.m, .slice x.A x.l x.c, .slice x.B x.bl x.bc, .int .i64 x.t] 27)
  have W1 := Lib.hid hw
  have B0 := Lib.hid b0
  have HX := Lib.hid (hx.chg hc)
  have HB := Lib.hid (hb.chg hc (by simp))
  have C := Lib.hid hc
  have ZX := Lib.hid hz
  have HCC := Lib.hid (And.intro hc1 hc2)
  clear hw hc b0 hx hb hz hn hc1 hc2
  go_enter Tryz.func3, Tryz.ntmps3
  go_upto_region 1 with fail
  rw [← W1.out]
  generalize w.heap.size = g0 at *
  clear W1
  have z0 := cell_of B0.out 0
  have z1 := cell_of B0.out 1
  have z2 := cell_of B0.out 2
  have z3 := cell_of B0.out 3
  have z4 := cell_of B0.out 4
  have z5 := cell_of B0.out 5
  simp only [List.getElem?_toArray, List.getElem?_cons_succ, List.getElem?_cons_zero] at z0 z1 z2 z3 z4 z5
  go_wp2_with fail
  clear z0 z1 z2 z3 z4 z5
  refine (longint_any w1 x (by rw [HX.out.l]; exact ZX.out.1)).mono ?_
  rintro r w2 ⟨v, rfl, hv, hc⟩
  replace C := Lib.hid (C.out.trans hc)
  replace B0 := Lib.hid (hc.at_ B0.out (by simp))
  replace HX := Lib.hid (HX.out.chg hc)
  replace HB := Lib.hid (HB.out.chg hc (by simp))
  clear hc
  rcases v with _ | _
  rotate_left
  · skip
    go_wp2_with fail
    refine (installAwake_run _).mono ?_
    rintro r w3 ⟨rfl, hc⟩
    replace C := Lib.hid (C.out.trans hc)
    go_wp2
    go_ret
    exact ⟨rfl, C.out⟩
  have sz := hv rfl
  have SX : Hid (InSm e ∧ e.q.length ≤ 100000) := Lib.hid (by
    have a1 := HX.out.l
    have a2 := HX.out.bl
    have a3 := HX.out.p
    have a4 : x.p.size = e.p.length := by rw [a3, strOf_size]
    unfold InSm
    omega)
  clear hv sz
  by_cases h2 : 3000 < ys.length
  · skip
    have h2 : (3000 : Int) < (ys.length : Int) := by omega
    go_wp2_with fail
    refine (installAwake_run _).mono ?_
    rintro r w3 ⟨rfl, hc⟩
    replace C := Lib.hid (C.out.trans hc)
    go_wp2
    go_ret
    exact ⟨rfl, C.out⟩
  have h2i : ¬ (3000 : Int) < (ys.length : Int) := by omega
  have HM : Hid (ys.length ≤ 3000) := Lib.hid (by omega)
  clear h2
  have z0 := cell_of B0.out 0
  have z1 := cell_of B0.out 1
  have z2 := cell_of B0.out 2
  have z3 := cell_of B0.out 3
  have z4 := cell_of B0.out 4
  have z5 := cell_of B0.out 5
  simp only [List.getElem?_toArray, List.getElem?_cons_succ, List.getElem?_cons_zero] at z0 z1 z2 z3 z4 z5
  go_wp2_with fail
  clear h2i
  clear z0 z1 z2 z3 z4 z5
  refine (copyint_any w2 x e HX.out ⟨SX.out.1.2.1, SX.out.2⟩).mono ?_
  rintro r w3 ⟨X, rfl, hX, hc⟩
  have HI := Lib.hid hX
  replace C := Lib.hid (C.out.trans hc)
  replace B0 := Lib.hid (hc.at_ B0.out (by simp))
  replace HX := Lib.hid (HX.out.chg hc)
  replace HB := Lib.hid (HB.out.chg hc (by simp))
  clear hX hc
  go_wp2_with fail
  refine (lent_any _ D_ _ d ys HB.out (by have := HM.out; omega)).mono ?_
  rintro r w4 ⟨g, rfl, hL, hg, hc⟩
  have HL := Lib.hid hL
  replace C := Lib.hid (C.out.trans hc)
  replace B0 := Lib.hid (hc.at_ B0.out (by simp))
  replace HX := Lib.hid (HX.out.chg hc)
  replace HB := Lib.hid (HB.out.chg hc (by simp))
  replace HI := Lib.hid (HI.out.chg hc)
  clear hL hg hc
  obtain ⟨w5, hw, hc, b5⟩ := news1 w4 (.cells #[.string X.p, .int .i64 X.k, .int .i64 X.m, .slice X.A X.l X.c, .slice X.B X.bl X.bc, .int .i64 X.t] 27)
  have W5 := Lib.hid hw
  have B5 := Lib.hid b5
  clear hw b5
  replace C := Lib.hid (C.out.trans hc)
  replace B0 := Lib.hid (hc.at_ B0.out (by simp))
  replace HX := Lib.hid (HX.out.chg hc)
  replace HB := Lib.hid (HB.out.chg hc (by simp))
  replace HI := Lib.hid (HI.out.chg hc)
  replace HL := Lib.hid (HL.out.chg hc (by simp))
  clear hc
  go_upto_region 4 with fail
  rw [← W5.out]
  generalize w4.heap.size = g5 at *
  clear W5
  have D := Lib.hid (Chg.refl [] w5)
  obtain ⟨bs, hbs⟩ : ∃ q, (bytesI e).1 = q := ⟨_, rfl⟩
  obtain ⟨be, hbe⟩ : ∃ q, (bytesI e).2 = q := ⟨_, rfl⟩
  obtain ⟨R, hR⟩ : ∃ q, readI ys = q := ⟨_, rfl⟩
  obtain ⟨ck, hck⟩ : ∃ q, chkI e = q := ⟨_, rfl⟩
  have BS := Lib.hid hbs
  have BE := Lib.hid hbe
  have RR := Lib.hid hR
  have CK := Lib.hid hck
  have RL : Hid (R.1.q.length ≤ 140737488351232) := Lib.hid (by rw [← hR]; have := readI_q ys; have := HM.out; omega)
  clear hbs hbe hR hck
  have B5X := Lib.hid (D.out.at_ B5.out (by simp))
  have z0 := cell_of B5X.out 0
  have z1 := cell_of B5X.out 1
  have z2 := cell_of B5X.out 2
  have z3 := cell_of B5X.out 3
  have z4 := cell_of B5X.out 4
  have z5 := cell_of B5X.out 5
  simp only [List.getElem?_toArray, List.getElem?_cons_succ, List.getElem?_cons_zero] at z0 z1 z2 z3 z4 z5
  go_wp2_with fail
  clear z0 z1 z2 z3 z4 z5
  clear B5X
  refine (inbytes_any w5 X e (HI.out.chg D.out) SX.out.1).mono ?_
  rintro r w6 ⟨Ax, cx, rfl, h5⟩
  rw [BS.out] at h5 ⊢
  rw [BE.out]
  have Ox := Lib.hid h5.1
  have hc := h5.2.2
  have NOx : Hid (∀ y, Ax = some y → w5.heap.size ≤ y.block ∧ y.block < w6.heap.size) := Lib.hid (fun y hy => ⟨h5.2.1 y hy, h5.1.lt8_ y hy⟩)
  clear h5
  replace D := Lib.hid (D.out.trans hc)
  clear hc
  have B0X := Lib.hid (D.out.at_ B0.out (by simp))
  have z0 := cell_of B0X.out 0
  have z1 := cell_of B0X.out 1
  have z2 := cell_of B0X.out 2
  have z3 := cell_of B0X.out 3
  have z4 := cell_of B0X.out 4
  have z5 := cell_of B0X.out 5
  simp only [List.getElem?_toArray, List.getElem?_cons_succ, List.getElem?_cons_zero] at z0 z1 z2 z3 z4 z5
  go_wp2_with fail
  clear z0 z1 z2 z3 z4 z5
  clear B0X
  refine (jnbytes_any w6 x e (HX.out.chg D.out) SX.out.1).mono ?_
  rintro r w7 ⟨Ay, cy, rfl, h5⟩
  rw [BS.out] at h5 ⊢
  rw [BE.out]
  have Oy := Lib.hid h5.1
  have hc := h5.2.2
  clear h5
  replace D := Lib.hid (D.out.trans hc)
  replace Ox := Lib.hid (Ox.out.chg hc (by simp))
  clear hc
  skip
  have LX7 : Hid (∀ y, Ax = some y → y.block < w7.heap.size) := Lib.hid (Ox.out.lt8_)
  go_wp2_with fail
  refine (inread_any w7 (some ⟨g, 0, none⟩) _ _ ys (HL.out.chg D.out (by simp)).reads (by have := HM.out; omega)).mono ?_
  rintro r w8 ⟨U, rfl, hU, hUo, hUn, hc⟩
  rw [RR.out] at hU hUo ⊢
  have HU := Lib.hid hU
  have OU := Lib.hid hUo
  have T78 : Hid (w7.heap.size ≤ w8.heap.size) := Lib.hid hc.size
  have NU : Hid (∀ a, U.B = some a → w7.heap.size ≤ a.block ∧ w5.heap.size ≤ a.block) := Lib.hid (fun a ha => ⟨hUn a ha, by have := hUn a ha; have := D.out.size; omega⟩)
  replace D := Lib.hid (D.out.trans hc)
  replace Ox := Lib.hid (Ox.out.chg hc (by simp))
  replace Oy := Lib.hid (Oy.out.chg hc (by simp))
  clear hU hUo hUn hc
  obtain ⟨w9, hw, hc, b11, b12⟩ := news2 w8 (.cells #[.string U.p, .int .i64 U.k, .int .i64 U.m, .slice U.A U.l U.c, .slice U.B U.bl U.bc, .int .i64 U.t] 27) (.cells #[.int .i64 R.2.1, .int .i64 R.2.2] 36)
  have WW := Lib.hid hw
  have B11 := Lib.hid b11
  have B12 := Lib.hid b12
  clear hw b11 b12
  replace D := Lib.hid (D.out.trans hc)
  replace Ox := Lib.hid (Ox.out.chg hc (by simp))
  replace Oy := Lib.hid (Oy.out.chg hc (by simp))
  replace HU := Lib.hid (HU.out.chg hc)
  replace OU := Lib.hid (OU.out.chg hc (by simp))
  clear hc
  go_upto_region 7 with fail
  rw [← WW.out]
  generalize w8.heap.size + 1 = g12 at B12 ⊢
  have GE11 : Hid (w7.heap.size ≤ w8.heap.size) := Lib.hid T78.out
  generalize w8.heap.size = g11 at B11 GE11 ⊢
  clear WW
  go_wp2_with fail
  refine (jnread_any w9 D_ _ d ys (HB.out.chg D.out (by simp)) (by have := HM.out; omega) HCC.out).mono ?_
  rintro r wa ⟨V, rfl, hV, -, -, hc⟩
  rw [RR.out] at hV ⊢
  have HV := Lib.hid hV
  replace D := Lib.hid (D.out.trans hc)
  replace Ox := Lib.hid (Ox.out.chg hc (by simp))
  replace Oy := Lib.hid (Oy.out.chg hc (by simp))
  replace HU := Lib.hid (HU.out.chg hc)
  replace OU := Lib.hid (OU.out.chg hc (by simp))
  replace B11 := Lib.hid (hc.at_ B11.out (by simp))
  replace B12 := Lib.hid (hc.at_ B12.out (by simp))
  clear hV hc
  obtain ⟨wb, hw, hc, b13, b14⟩ := news2 wa (.cells #[.string V.p, .int .i64 V.k, .int .i64 V.m, .slice V.A V.l V.c, .slice V.B V.bl V.bc, .int .i64 V.t] 27) (.cells #[.int .i64 R.2.1, .int .i64 R.2.2] 36)
  have WW := Lib.hid hw
  have B13 := Lib.hid b13
  have B14 := Lib.hid b14
  clear hw b13 b14
  replace D := Lib.hid (D.out.trans hc)
  replace Ox := Lib.hid (Ox.out.chg hc (by simp))
  replace Oy := Lib.hid (Oy.out.chg hc (by simp))
  replace HU := Lib.hid (HU.out.chg hc)
  replace OU := Lib.hid (OU.out.chg hc (by simp))
  replace B11 := Lib.hid (hc.at_ B11.out (by simp))
  replace B12 := Lib.hid (hc.at_ B12.out (by simp))
  replace HV := Lib.hid (HV.out.chg hc)
  clear hc
  go_upto_region 8 with fail
  rw [← WW.out]
  generalize wa.heap.size + 1 = g14 at B14 ⊢
  generalize wa.heap.size = g13 at B13 ⊢
  clear WW
  have DX2 : Hid (∀ w', Chg [] wb w' → w'.cell? ⟨g11, 0, none⟩ = some (.string U.p) ∧ w'.cell? ⟨g11, 1, none⟩ = some (.int .i64 U.k) ∧ w'.cell? ⟨g11, 2, none⟩ = some (.int .i64 U.m) ∧ w'.cell? ⟨g11, 3, none⟩ = some (.slice U.A U.l U.c) ∧ w'.cell? ⟨g11, 4, none⟩ = some (.slice U.B U.bl U.bc) ∧ w'.cell? ⟨g11, 5, none⟩ = some (.int .i64 U.t) ∧ w'.cell? ⟨g13, 0, none⟩ = some (.string V.p) ∧ w'.cell? ⟨g13, 1, none⟩ = some (.int .i64 V.k) ∧ w'.cell? ⟨g13, 2, none⟩ = some (.int .i64 V.m) ∧ w'.cell? ⟨g13, 3, none⟩ = some (.slice V.A V.l V.c) ∧ w'.cell? ⟨g13, 4, none⟩ = some (.slice V.B V.bl V.bc) ∧ w'.cell? ⟨g13, 5, none⟩ = some (.int .i64 V.t) ∧ w'.cell? ⟨g12, 0, none⟩ = some (.int .i64 R.2.1) ∧ w'.cell? ⟨g12, 1, none⟩ = some (.int .i64 R.2.2) ∧ w'.cell? ⟨g14, 0, none⟩ = some (.int .i64 R.2.1) ∧ w'.cell? ⟨g14, 1, none⟩ = some (.int .i64 R.2.2) ∧ w'.cell? ⟨g5, 0, none⟩ = some (.string X.p) ∧ w'.cell? ⟨g5, 1, none⟩ = some (.int .i64 X.k) ∧ w'.cell? ⟨g5, 2, none⟩ = some (.int .i64 X.m) ∧ w'.cell? ⟨g5, 3, none⟩ = some (.slice X.A X.l X.c) ∧ w'.cell? ⟨g5, 4, none⟩ = some (.slice X.B X.bl X.bc) ∧ w'.cell? ⟨g5, 5, none⟩ = some (.int .i64 X.t) ∧ w'.cell? ⟨g0, 0, none⟩ = some (.string x.p) ∧ w'.cell? ⟨g0, 1, none⟩ = some (.int .i64 x.k) ∧ w'.cell? ⟨g0, 2, none⟩ = some (.int .i64 x.m) ∧ w'.cell? ⟨g0, 3, none⟩ = some (.slice x.A x.l x.c) ∧ w'.cell? ⟨g0, 4, none⟩ = some (.slice x.B x.bl x.bc) ∧ w'.cell? ⟨g0, 5, none⟩ = some (.int .i64 x.t)) := Lib.hid (fun w' hc => by
    have b_g11 := hc.at_ B11.out (by simp)
    have b_g13 := hc.at_ B13.out (by simp)
    have b_g12 := hc.at_ B12.out (by simp)
    have b_g14 := hc.at_ B14.out (by simp)
    have b_g5 := hc.at_ (D.out.at_ B5.out (by simp)) (by simp)
    have b_g0 := hc.at_ (D.out.at_ B0.out (by simp)) (by simp)
    exact ⟨cell_of b_g11 0, cell_of b_g11 1, cell_of b_g11 2, cell_of b_g11 3, cell_of b_g11 4, cell_of b_g11 5, cell_of b_g13 0, cell_of b_g13 1, cell_of b_g13 2, cell_of b_g13 3, cell_of b_g13 4, cell_of b_g13 5, cell_of b_g12 0, cell_of b_g12 1, cell_of b_g14 0, cell_of b_g14 1, cell_of b_g5 0, cell_of b_g5 1, cell_of b_g5 2, cell_of b_g5 3, cell_of b_g5 4, cell_of b_g5 5, cell_of b_g0 0, cell_of b_g0 1, cell_of b_g0 2, cell_of b_g0 3, cell_of b_g0 4, cell_of b_g0 5⟩)
  refine wp_region_held_drew (S := fun w' => w'.cell? ⟨g11, 0, none⟩ = some (.string U.p) ∧ w'.cell? ⟨g11, 1, none⟩ = some (.int .i64 U.k) ∧ w'.cell? ⟨g11, 2, none⟩ = some (.int .i64 U.m) ∧ w'.cell? ⟨g11, 3, none⟩ = some (.slice U.A U.l U.c) ∧ w'.cell? ⟨g11, 4, none⟩ = some (.slice U.B U.bl U.bc) ∧ w'.cell? ⟨g11, 5, none⟩ = some (.int .i64 U.t) ∧ w'.cell? ⟨g13, 0, none⟩ = some (.string V.p) ∧ w'.cell? ⟨g13, 1, none⟩ = some (.int .i64 V.k) ∧ w'.cell? ⟨g13, 2, none⟩ = some (.int .i64 V.m) ∧ w'.cell? ⟨g13, 3, none⟩ = some (.slice V.A V.l V.c) ∧ w'.cell? ⟨g13, 4, none⟩ = some (.slice V.B V.bl V.bc) ∧ w'.cell? ⟨g13, 5, none⟩ = some (.int .i64 V.t) ∧ w'.cell? ⟨g12, 0, none⟩ = some (.int .i64 R.2.1) ∧ w'.cell? ⟨g12, 1, none⟩ = some (.int .i64 R.2.2) ∧ w'.cell? ⟨g14, 0, none⟩ = some (.int .i64 R.2.1) ∧ w'.cell? ⟨g14, 1, none⟩ = some (.int .i64 R.2.2) ∧ w'.cell? ⟨g5, 0, none⟩ = some (.string X.p) ∧ w'.cell? ⟨g5, 1, none⟩ = some (.int .i64 X.k) ∧ w'.cell? ⟨g5, 2, none⟩ = some (.int .i64 X.m) ∧ w'.cell? ⟨g5, 3, none⟩ = some (.slice X.A X.l X.c) ∧ w'.cell? ⟨g5, 4, none⟩ = some (.slice X.B X.bl X.bc) ∧ w'.cell? ⟨g5, 5, none⟩ = some (.int .i64 X.t) ∧ w'.cell? ⟨g0, 0, none⟩ = some (.string x.p) ∧ w'.cell? ⟨g0, 1, none⟩ = some (.int .i64 x.k) ∧ w'.cell? ⟨g0, 2, none⟩ = some (.int .i64 x.m) ∧ w'.cell? ⟨g0, 3, none⟩ = some (.slice x.A x.l x.c) ∧ w'.cell? ⟨g0, 4, none⟩ = some (.slice x.B x.bl x.bc) ∧ w'.cell? ⟨g0, 5, none⟩ = some (.int .i64 x.t)) (by kernel_rfl) (DX2.out _ (Chg.refl [] wb).drew) (fun hHeld => ?_)
  have EC : Hid (Chg [] wb wb.drew) := Lib.hid (Chg.refl [] wb).drew
  clear hHeld
  obtain ⟨wc, hwc⟩ : ∃ wc, wb.drew = wc := ⟨_, rfl⟩
  rw [hwc] at EC ⊢
  clear hwc
  have e1 : ((be == be) : Bool) = true := by simp
  have e2 : ((ck == ck) : Bool) = true := by simp
  refine sy 0 48 rfl rfl ?_ (hS := (DX2.out _ EC.out))
  try simp only [Act.put, sA, s0, s1]
  refine sy 1 49 rfl rfl ?_ (hS := (DX2.out _ EC.out))
  try simp only [Act.put, sA, s0, s1]
  refine wpAnyH_ready (rs := [2]) (by kernel_rfl) (by simp) ?_
  refine AllReadyH.cons rfl (fun K hK => ?_) AllReadyH.nil
  replace hK := Lib.hid hK
  go_simp
  refine (same_any wc Ax Ay _ _ cx cy bs bs (Ox.out.reads.chg EC.out (by simp)) (Oy.out.reads.chg EC.out (by simp))).mono ?_
  rintro r wd ⟨rfl, rfl⟩
  rw [beq_self_eq_true]
  refine hK.out _ _ (DX2.out _ EC.out) (fun hHeld => ?_)
  clear hK K
  try simp only [Act.put, sA, s0, s1]
  refine sy 3 51 rfl rfl ?_ (hS := (DX2.out _ EC.out))
  try simp only [Act.put, sA, s0, s1]
  refine sy 4 52 rfl rfl ?_ (hS := (DX2.out _ EC.out))
  try simp only [Act.put, sA, s0, s1]
  refine sy 5 53 rfl rfl ?_ (hS := (DX2.out _ EC.out))
  try simp only [Act.put, sA, s0, s1]
  refine sy 6 54 rfl rfl ?_ (hS := (DX2.out _ EC.out))
  try simp only [Act.put, sA, s0, s1]
  refine sy 7 55 rfl rfl ?_ (hS := (DX2.out _ EC.out))
  try simp only [Act.put, sA, s0, s1]
  refine sy 8 56 rfl rfl ?_ (hS := (DX2.out _ EC.out))
  try simp only [Act.put, sA, s0, s1]
  refine sy 9 57 rfl rfl ?_ (hS := (DX2.out _ EC.out)) (hy := by (intro w hSw; (try dsimp only at hSw); obtain ⟨q0, q1, q2, q3, q4, q5, q6, q7, q8, q9, q10, q11, q12, q13, q14, q15, q16, q17, q18, q19, q20, q21, q22, q23, q24, q25, q26, q27⟩ := hSw; go_simp; try with_reducible rfl))
  try simp only [Act.put, sA, s0, s1]
  refine sy 10 58 rfl rfl ?_ (hS := (DX2.out _ EC.out)) (hy := by (intro w hSw; (try dsimp only at hSw); obtain ⟨q0, q1, q2, q3, q4, q5, q6, q7, q8, q9, q10, q11, q12, q13, q14, q15, q16, q17, q18, q19, q20, q21, q22, q23, q24, q25, q26, q27⟩ := hSw; go_simp; try with_reducible rfl))
  try simp only [Act.put, sA, s0, s1]
  refine wpAnyH_ready (rs := [11]) (by kernel_rfl) (by simp) ?_
  refine AllReadyH.cons rfl (fun K hK => ?_) AllReadyH.nil
  replace hK := Lib.hid hK
  go_simp
  refine (sameint_yes wc U V R.1 (HU.out.chg EC.out) (HV.out.chg EC.out) RL.out).mono ?_
  rintro r wc ⟨rfl, hc⟩
  replace EC := Lib.hid (EC.out.trans hc)
  clear hc
  refine hK.out _ _ (DX2.out _ EC.out) (fun hHeld => ?_)
  clear hK K
  try simp only [Act.put, sA, s0, s1]
  refine sy 12 60 rfl rfl ?_ (hS := (DX2.out _ EC.out))
  try simp only [Act.put, sA, s0, s1]
  refine sy 13 61 rfl rfl ?_ (hS := (DX2.out _ EC.out))
  try simp only [Act.put, sA, s0, s1]
  refine sy 14 62 rfl rfl ?_ (hS := (DX2.out _ EC.out)) (hy := by (intro w hSw; (try dsimp only at hSw); obtain ⟨q0, q1, q2, q3, q4, q5, q6, q7, q8, q9, q10, q11, q12, q13, q14, q15, q16, q17, q18, q19, q20, q21, q22, q23, q24, q25, q26, q27⟩ := hSw; go_simp; try with_reducible rfl))
  try simp only [Act.put, sA, s0, s1]
  refine sy 15 63 rfl rfl ?_ (hS := (DX2.out _ EC.out)) (hy := by (intro w hSw; (try dsimp only at hSw); obtain ⟨q0, q1, q2, q3, q4, q5, q6, q7, q8, q9, q10, q11, q12, q13, q14, q15, q16, q17, q18, q19, q20, q21, q22, q23, q24, q25, q26, q27⟩ := hSw; go_simp; try with_reducible rfl))
  try simp only [Act.put, sA, s0, s1]
  refine sy 16 64 rfl rfl ?_ (hS := (DX2.out _ EC.out))
  try simp only [Act.put, sA, s0, s1]
  refine sy 17 65 rfl rfl ?_ (hS := (DX2.out _ EC.out))
  try simp only [Act.put, sA, s0, s1]
  refine sy 18 66 rfl rfl ?_ (hS := (DX2.out _ EC.out))
  try simp only [Act.put, sA, s0, s1]
  refine sy 19 67 rfl rfl ?_ (hS := (DX2.out _ EC.out)) (hy := by (intro w hSw; (try dsimp only at hSw); obtain ⟨q0, q1, q2, q3, q4, q5, q6, q7, q8, q9, q10, q11, q12, q13, q14, q15, q16, q17, q18, q19, q20, q21, q22, q23, q24, q25, q26, q27⟩ := hSw; go_simp; try with_reducible rfl))
  try simp only [Act.put, sA, s0, s1]
  refine sy 21 69 rfl rfl ?_ (hS := (DX2.out _ EC.out)) (hy := by (intro w hSw; (try dsimp only at hSw); obtain ⟨q0, q1, q2, q3, q4, q5, q6, q7, q8, q9, q10, q11, q12, q13, q14, q15, q16, q17, q18, q19, q20, q21, q22, q23, q24, q25, q26, q27⟩ := hSw; go_simp; try with_reducible rfl))
  try simp only [Act.put, sA, s0, s1]
  refine wpAnyH_ready (rs := [20]) (by kernel_rfl) (by simp) ?_
  refine AllReadyH.cons rfl (fun K hK => ?_) AllReadyH.nil
  replace hK := Lib.hid hK
  go_simp
  refine (incheck_any wc X e (HI.out.chg (D.out.trans EC.out)) SX.out.1).mono ?_
  rintro r wc ⟨rfl, hc⟩
  rw [CK.out]
  replace EC := Lib.hid (EC.out.trans hc)
  clear hc
  refine hK.out _ _ (DX2.out _ EC.out) (fun hHeld => ?_)
  clear hK K
  try simp only [Act.put, sA, s0, s1]
  refine wpAnyH_ready (rs := [22]) (by kernel_rfl) (by simp) ?_
  refine AllReadyH.cons rfl (fun K hK => ?_) AllReadyH.nil
  replace hK := Lib.hid hK
  go_simp
  refine (jncheck_any wc x e (HX.out.chg (D.out.trans EC.out)) SX.out.1).mono ?_
  rintro r wc ⟨rfl, hc⟩
  rw [CK.out]
  replace EC := Lib.hid (EC.out.trans hc)
  clear hc
  refine hK.out _ _ (DX2.out _ EC.out) (fun hHeld => ?_)
  clear hK K
  try simp only [Act.put, sA, s0, s1]
  refine sy 23 71 rfl rfl ?_ (hS := (DX2.out _ EC.out))
  try simp only [Act.put, sA, s0, s1]
  refine sy 24 72 rfl rfl ?_ (hS := (DX2.out _ EC.out))
  try simp only [Act.put, sA, s0, s1]
  refine sy 25 15 rfl rfl ?_ (hS := (DX2.out _ EC.out))
  try simp only [Act.put, sA, s0, s1]
  refine wpAnyH_done (by kernel_rfl) ?_ _
  clear hHeld DX2 e1 e2
  replace D := Lib.hid (D.out.trans EC.out)
  replace Ox := Lib.hid (Ox.out.chg EC.out (by simp))
  replace Oy := Lib.hid (Oy.out.chg EC.out (by simp))
  replace HU := Lib.hid (HU.out.chg EC.out)
  replace OU := Lib.hid (OU.out.chg EC.out (by simp))
  replace B11 := Lib.hid (EC.out.at_ B11.out (by simp))
  replace B12 := Lib.hid (EC.out.at_ B12.out (by simp))
  replace HV := Lib.hid (HV.out.chg EC.out)
  replace B13 := Lib.hid (EC.out.at_ B13.out (by simp))
  replace B14 := Lib.hid (EC.out.at_ B14.out (by simp))
  clear EC
  go_wp2_with fail
  refine (over_own wc Ax cx _ bs Ox.out rfl).mono ?_
  rintro r wo1 ⟨rfl, h9⟩
  obtain ⟨S, hS, h9⟩ := over_only h9
  have d9 := D.out.trans' h9 (fun i hi => .inr (by obtain ⟨y, hy, e⟩ := hS i hi; rw [← e]; exact (NOx.out y hy).1))
  have bb := h9.at_ B11.out (fun hi => by obtain ⟨y, hy, e⟩ := hS _ hi; have := LX7.out y hy; have := GE11.out; omega)
  have oo := OU.out.chg h9 (fun z hz hi => by obtain ⟨y, hy, e⟩ := hS _ hi; have := LX7.out y hy; have := (NU.out z hz).1; omega)
  clear h9 hS
  replace D := Lib.hid d9
  replace B11 := Lib.hid bb
  replace OU := Lib.hid oo
  clear d9 bb oo
  have z0 := cell_of B11.out 0
  have z1 := cell_of B11.out 1
  have z2 := cell_of B11.out 2
  have z3 := cell_of B11.out 3
  have z4 := cell_of B11.out 4
  have z5 := cell_of B11.out 5
  simp only [List.getElem?_toArray, List.getElem?_cons_succ, List.getElem?_cons_zero] at z0 z1 z2 z3 z4 z5
  go_wp2_with fail
  clear z0 z1 z2 z3 z4 z5
  have UL : Hid (U.bl = R.1.q.length) := Lib.hid HU.out.bl
  refine (overspan_own wo1 U.B _ U.bc R.1.q OU.out UL.out).mono ?_
  rintro r wo2 ⟨rfl, h9⟩
  obtain ⟨S, hS, h9⟩ := over_only h9
  have d9 := D.out.trans' h9 (fun i hi => .inr (by obtain ⟨y, hy, e⟩ := hS i hi; rw [← e]; exact (NU.out y hy).2))
  clear h9 hS
  replace D := Lib.hid d9
  clear d9
  have B5X := Lib.hid (D.out.at_ B5.out (by simp))
  have z0 := cell_of B5X.out 0
  have z1 := cell_of B5X.out 1
  have z2 := cell_of B5X.out 2
  have z3 := cell_of B5X.out 3
  have z4 := cell_of B5X.out 4
  have z5 := cell_of B5X.out 5
  simp only [List.getElem?_toArray, List.getElem?_cons_succ, List.getElem?_cons_zero] at z0 z1 z2 z3 z4 z5
  have B0X := Lib.hid (D.out.at_ B0.out (by simp))
  have y0 := cell_of B0X.out 0
  have y1 := cell_of B0X.out 1
  have y2 := cell_of B0X.out 2
  have y3 := cell_of B0X.out 3
  have y4 := cell_of B0X.out 4
  have y5 := cell_of B0X.out 5
  simp only [List.getElem?_toArray, List.getElem?_cons_succ, List.getElem?_cons_zero] at y0 y1 y2 y3 y4 y5
  go_wp2_with fail
  clear z0 z1 z2 z3 z4 z5
  clear B5X
  clear y0 y1 y2 y3 y4 y5
  clear B0X
  refine (sameint_yes wo2 X x e (HI.out.chg D.out) (HX.out.chg D.out) SX.out.1.2.2).mono ?_
  rintro r wp1 ⟨rfl, hc⟩
  replace D := Lib.hid (D.out.trans hc)
  clear hc
  go_wp2_with fail
  refine (kept_any wp1 g D_ _ d ys (HL.out.chg D.out (by simp)) (HB.out.chg D.out (by simp)) (by have := HM.out; omega)).mono ?_
  rintro r wp2 ⟨rfl, hc⟩
  replace D := Lib.hid (D.out.trans hc)
  clear hc
  go_wp2_with fail
  refine (installAwake_run _).mono ?_
  rintro r wp3 ⟨rfl, hc⟩
  replace D := Lib.hid (D.out.trans hc)
  clear hc
  go_wp2
  go_ret
  exact ⟨(by first | rfl | simp), C.out.trans D.out⟩
end
section
open Go.RowKit Go.WideShapes Go.ChangeShapes Go.Deep
section
variable {H : Type} {enc : TypeId × Value → H} {P : Program} {w : World} {base : Nat} {spare : Nat → Bool} {held : Bool}

theorem weights_all_mem {e : TypeId} : ∀ {l : List (DataW H)} {d : DataW H}, d ∈ l → ∀ n ∈ d.weights P e, n ∈ DataW.weightsAll P e l
  | x :: l, d, hd, n, hn => by
    simp only [DataW.weightsAll, List.mem_append]
    rcases List.mem_cons.1 hd with rfl | h
    · exact .inl hn
    · exact .inr (weights_all_mem h n hn)
theorem weights_slice {t e : TypeId} (ht : P.underlying t = some (.slice e)) {xs ys : List (DataW H)} (hz : ∀ k ∈ (DataW.slice xs ys).weights P t, k ≤ reachBytes) :
    (xs.length + ys.length) * P.bytesOf e ≤ reachBytes ∧ ∀ d ∈ xs, ∀ k ∈ d.weights P e, k ≤ reachBytes := by
  simp only [DataW.weights, ht, List.mem_cons, List.mem_append] at hz
  exact ⟨hz _ (.inl rfl), fun d hd k hk => hz k (.inr (.inl (weights_all_mem hd k hk)))⟩
theorem weights_struct {t : TypeId} {fs : Array Field} (ht : P.underlying t = some (.struct fs)) {xs : List (DataW H)} (hz : ∀ k ∈ (DataW.agg xs).weights P t, k ≤ reachBytes) {j : Nat} {f : Field} {d : DataW H} (hf : fs[j]? = some f) (hd : xs[j]? = some d) :
    ∀ k ∈ d.weights P f.type, k ≤ reachBytes := by
  simp only [DataW.weights, ht] at hz
  exact fun k hk => hz k (DataW.weights_mem_each (j := j) (by simp [hf]) hd k hk)

/-- A list of what is there for every number. -/
theorem list_of {α : Type} {Q : Nat → α → Prop} : ∀ (n : Nat), (∀ i, i < n → ∃ a, Q i a) → ∃ l : List α, l.length = n ∧ ∀ j a, l[j]? = some a → Q j a
  | 0, _ => ⟨[], rfl, by simp⟩
  | n + 1, h => by
    obtain ⟨l, h1, h2⟩ := list_of n (fun i hi => h i (by omega))
    obtain ⟨a, ha⟩ := h n (by omega)
    refine ⟨l ++ [a], by simp [h1], fun j b hj => ?_⟩
    rw [List.getElem?_append] at hj
    split at hj
    · exact h2 j b hj
    · rename_i hn
      have : j = n := by
        have := (List.getElem?_eq_some_iff.1 hj).1
        simp at this
        omega
      subst this
      rw [h1] at hj
      simp at hj
      subst hj
      exact ha
end
section
variable {H : Type} {enc : TypeId × Value → H} {w : World} {base : Nat} {spare : Nat → Bool} {held : Bool}

theorem open_bytes {n : Nat} {cs : List Value} {y : DataW H × List MemPlace} (h : DataW.trod enc Tryz.prog w base spare held n 22 cs = some y) (hz : ∀ k ∈ y.1.weights Tryz.prog 22, k ≤ reachBytes) :
    ∃ A m d ys, cs = [.slice A m d] ∧ Bs w A m ys ∧ m ≤ 140737488351232 ∧ m ≤ d ∧ d ≤ 9223372036854775807 := by
  rcases open_ints Tryz.underlying22 Tryz.underlying5 (by kernel_rfl) h with ⟨rfl, _⟩ | ⟨x, l, c, zs, rfl, _, hl, hm, hzl, rfl, hcell, hwz⟩
  · exact ⟨none, 0, 0, [], rfl, Bs.nil _ _, by decide, by decide, by decide⟩
  · have hlen : l ≤ zs.length := by rw [hzl]; split <;> omega
    have hw := (weights_slice Tryz.underlying22 hz).1
    rw [show Tryz.prog.bytesOf 5 = 1 by kernel_rfl] at hw
    refine ⟨some x, l, c, (zs.take l).map (fun z => UInt8.ofNat z.toNat), rfl, ⟨by simp; omega, fun j u hj => ⟨x, rfl, ?_⟩⟩, ?_, hl, by unfold maxLen at hm; omega⟩
    · have hjl := (List.getElem?_eq_some_iff.1 hj).1
      rw [List.length_map, List.length_take] at hjl
      have h1 : j < l := by omega
      have h2 : j < zs.length := by omega
      rw [hcell j h2]
      have hwz' := bounds_u8 (hwz (zs.getD j 0) (by simp [List.getD, h2]))
      simp only [List.getElem?_map, List.getElem?_take, if_pos h1, Option.map_eq_some_iff] at hj
      obtain ⟨z, h3, rfl⟩ := hj
      have e : zs.getD j 0 = z := by simp [List.getD, h3]
      rw [e] at hwz' ⊢
      unfold bv
      congr 2
      simp
      omega
    · simp [lits, reachBytes] at hw
      omega

theorem open_str {n : Nat} {v : Value} {y : DataW H × List MemPlace} (h : DataW.trod enc Tryz.prog w base spare held n 9 [v] = some y) (hz : ∀ k ∈ y.1.weights Tryz.prog 9, k ≤ reachBytes) : ∃ s : ByteArray, v = .string s ∧ s.size ≤ 140737488351232 := by
  obtain ⟨s, e, e', _⟩ := DataW.trod_string Tryz.underlying9 h
  refine ⟨s, List.singleton_inj.1 e, ?_⟩
  have := hz s.data.toList.length (by rw [e']; simp [DataW.weights])
  rw [Array.length_toList] at this
  exact this
set_option maxRecDepth 100000 in
/-- An effect's three cells. -/
theorem open_effect {n : Nat} {cs : List Value} {y : DataW H × List MemPlace} (h : DataW.trod enc Tryz.prog w base spare held n 24 cs = some y) (hz : ∀ k ∈ y.1.weights Tryz.prog 24, k ≤ reachBytes) :
    ∃ (k m : Int) (A : Option Addr) (n d : Nat) (ys : List UInt8), cs = [.int .i64 k, .int .i64 m, .slice A n d] ∧ Bs w A n ys ∧ n ≤ 140737488351232 ∧ n ≤ d ∧ d ≤ 9223372036854775807 := by
  obtain ⟨xs, k, rfl, rfl, hl, hx, hf⟩ := DataW.trod_struct Tryz.underlying24 h
  rw [show Tryz.prog.cellsOf 24 = 3 by kernel_rfl] at hl
  have g0 := hf 0 _ rfl
  have g1 := hf 1 _ rfl
  have g2 := hf 2 _ rfl
  change DataW.trod _ _ _ _ _ _ _ 3 ((cs.drop 0).take (Tryz.prog.cellsOf 3)) = _ at g0
  change DataW.trod _ _ _ _ _ _ _ 3 ((cs.drop 1).take (Tryz.prog.cellsOf 3)) = _ at g1
  change DataW.trod _ _ _ _ _ _ _ 22 ((cs.drop 2).take (Tryz.prog.cellsOf 22)) = _ at g2
  rw [show Tryz.prog.cellsOf 3 = 1 by kernel_rfl] at g0 g1
  rw [show Tryz.prog.cellsOf 22 = 1 by kernel_rfl] at g2
  match cs, hl with
  | [v0, v1, v2], _ =>
    match xs, hx with
    | [x0, x1, x2], _ =>
      have w2 := weights_struct Tryz.underlying24 hz (j := 2) (d := x2.1) rfl rfl
      obtain ⟨z0, e0, _, _⟩ := DataW.trod_int Tryz.underlying3 g0
      obtain ⟨z1, e1, _, _⟩ := DataW.trod_int Tryz.underlying3 g1
      obtain ⟨A, m, d, ys, e2, hb, hm, hmd, hd⟩ := open_bytes g2 w2
      simp only [List.drop_succ_cons, List.drop_zero, List.take_succ_cons, List.take_zero, List.cons.injEq, and_true] at e0 e1 e2
      subst e0 e1 e2
      exact ⟨z0, z1, A, m, d, ys, rfl, hb, hm, hmd, hd⟩
end
end
section
open Go.RowKit Go.WideShapes Go.ChangeShapes Go.Deep
set_option linter.unusedSimpArgs false
section
variable {H : Type} {enc : TypeId × Value → H} {w : World} {base : Nat} {spare : Nat → Bool} {held : Bool}
set_option maxRecDepth 100000 in
/-- A span's three cells. -/
theorem open_span {n : Nat} {cs : List Value} {y : DataW H × List MemPlace} (h : DataW.trod enc Tryz.prog w base spare held n 88 cs = some y) :
    ∃ (a b c : Int), cs = [.int .i64 a, .int .i64 b, .int .i64 c] := by
  obtain ⟨xs, k, rfl, rfl, hl, hx, hf⟩ := DataW.trod_struct Tryz.underlying88 h
  rw [show Tryz.prog.cellsOf 88 = 3 by kernel_rfl] at hl
  have g0 := hf 0 _ rfl
  have g1 := hf 1 _ rfl
  have g2 := hf 2 _ rfl
  change DataW.trod _ _ _ _ _ _ _ 3 ((cs.drop 0).take (Tryz.prog.cellsOf 3)) = _ at g0
  change DataW.trod _ _ _ _ _ _ _ 3 ((cs.drop 1).take (Tryz.prog.cellsOf 3)) = _ at g1
  change DataW.trod _ _ _ _ _ _ _ 3 ((cs.drop 2).take (Tryz.prog.cellsOf 3)) = _ at g2
  rw [show Tryz.prog.cellsOf 3 = 1 by kernel_rfl] at g0 g1 g2
  match cs, hl with
  | [v0, v1, v2], _ =>
    match xs, hx with
    | [x0, x1, x2], _ =>
      obtain ⟨z0, e0, _, _⟩ := DataW.trod_int Tryz.underlying3 g0
      obtain ⟨z1, e1, _, _⟩ := DataW.trod_int Tryz.underlying3 g1
      obtain ⟨z2, e2, _, _⟩ := DataW.trod_int Tryz.underlying3 g2
      simp only [List.drop_succ_cons, List.drop_zero, List.take_succ_cons, List.take_zero, List.cons.injEq, and_true] at e0 e1 e2
      subst e0 e1 e2
      exact ⟨z0, z1, z2, rfl⟩
theorem open_spans {n : Nat} {cs : List Value} {y : DataW H × List MemPlace} (h : DataW.trod enc Tryz.prog w base spare held n 25 cs = some y) (hz : ∀ k ∈ y.1.weights Tryz.prog 25, k ≤ reachBytes) :
    ∃ A m d zs, cs = [.slice A m d] ∧ RdK spanTy w A m zs ∧ m * 24 ≤ 140737488351232 ∧ m ≤ d := by
  rcases open_slice Tryz.underlying25 h with ⟨rfl, _⟩ | ⟨a, len, cap, m, k, D, Pl, rfl, _, hl, hm, hmm, rfl, hi⟩
  · exact ⟨none, 0, 0, [], rfl, RdK.nil _ _, by decide, by decide⟩
  · have hlm : len ≤ m := by rw [hmm]; split <;> omega
    obtain ⟨hw, _⟩ := weights_slice Tryz.underlying25 hz
    rw [show Tryz.prog.bytesOf 88 = 24 by kernel_rfl] at hw
    simp [reachBytes] at hw
    have hC : Tryz.prog.cellsOf 88 = 3 := by kernel_rfl
    obtain ⟨l, hll, hat⟩ := list_of (Q := fun i (x : Int × Int × Int) => w.cell? (a.add (i * 3)) = some (.int .i64 x.1) ∧ w.cell? (a.add (i * 3 + 1)) = some (.int .i64 x.2.1) ∧ w.cell? (a.add (i * 3 + 2)) = some (.int .i64 x.2.2)) len (fun i hilt => by
      obtain ⟨cs', hc, ht⟩ := hi i (by omega)
      rw [hC] at hc
      obtain ⟨_, hcl, hat⟩ := World.cells?_some hc
      obtain ⟨p, q, r, rfl⟩ := open_span ht
      have g0 := hat 0 (by omega)
      have g1 := hat 1 (by omega)
      have g2 := hat 2 (by omega)
      rw [add_add] at g0 g1 g2
      exact ⟨(p, q, r), g0, g1, g2⟩)
    refine ⟨some a, len, cap, l, rfl, ⟨hll, fun j v hj => ⟨a, rfl, ?_⟩⟩, by omega, hl⟩
    have hj2 := (List.getElem?_eq_some_iff.1 hj).1
    rw [spanTy.flat_len] at hj2
    have hk : spanTy.k = 3 := rfl
    rw [hk] at hj2
    have hq : j / 3 < l.length := by omega
    have e := spanTy.flat_at l (j / 3) (j % 3) _ (List.getElem?_eq_getElem hq) (Nat.mod_lt _ (by decide))
    rw [hk, Nat.div_add_mod', hj] at e
    obtain ⟨g0, g1, g2⟩ := hat (j / 3) _ (List.getElem?_eq_getElem hq)
    rcases (show j % 3 = 0 ∨ j % 3 = 1 ∨ j % 3 = 2 by omega) with h0 | h0 | h0
    · rw [h0] at e
      rw [show j / 3 * 3 = j by omega] at g0
      rw [g0]
      exact e.symm
    · rw [h0] at e
      rw [show j / 3 * 3 + 1 = j by omega] at g1
      rw [g1]
      exact e.symm
    · rw [h0] at e
      rw [show j / 3 * 3 + 2 = j by omega] at g2
      rw [g2]
      exact e.symm
end
end
section
open Go.RowKit Go.WideShapes Go.ChangeShapes Go.Deep
set_option linter.unusedSimpArgs false
set_option linter.unusedVariables false


set_option maxRecDepth 100000 in
theorem open_intent {H : Type} {enc : TypeId × Value → H} {w : World} {base : Nat} {spare : Nat → Bool} {held : Bool} {n : Nat} {cs : List Value} {y : DataW H × List MemPlace} (h : DataW.trod enc Tryz.prog w base spare held n 27 cs = some y) (hz : ∀ k ∈ y.1.weights Tryz.prog 27, k ≤ reachBytes) :
    ∃ (x : InT) (e : InP), cs = [.string x.p, .int .i64 x.k, .int .i64 x.m, .slice x.A x.l x.c, .slice x.B x.bl x.bc, .int .i64 x.t] ∧ InR w x e ∧ InZ x e := by
  obtain ⟨xs, k, rfl, rfl, hl, hx, hf⟩ := DataW.trod_struct Tryz.underlying27 h
  rw [show Tryz.prog.cellsOf 27 = 6 by kernel_rfl] at hl
  have g0 := hf 0 _ rfl
  have g1 := hf 1 _ rfl
  have g2 := hf 2 _ rfl
  have g3 := hf 3 _ rfl
  change DataW.trod _ _ _ _ _ _ _ 9 ((cs.drop 0).take (Tryz.prog.cellsOf 9)) = _ at g0
  change DataW.trod _ _ _ _ _ _ _ 24 ((cs.drop 1).take (Tryz.prog.cellsOf 24)) = _ at g1
  change DataW.trod _ _ _ _ _ _ _ 25 ((cs.drop 4).take (Tryz.prog.cellsOf 25)) = _ at g2
  change DataW.trod _ _ _ _ _ _ _ 3 ((cs.drop 5).take (Tryz.prog.cellsOf 3)) = _ at g3
  rw [show Tryz.prog.cellsOf 9 = 1 by kernel_rfl] at g0
  rw [show Tryz.prog.cellsOf 24 = 3 by kernel_rfl] at g1
  rw [show Tryz.prog.cellsOf 25 = 1 by kernel_rfl] at g2
  rw [show Tryz.prog.cellsOf 3 = 1 by kernel_rfl] at g3
  match cs, hl with
  | [v0, v1, v2, v3, v4, v5], _ =>
    match xs, hx with
    | [x0, x1, x2, x3], _ =>
      have w0 := weights_struct Tryz.underlying27 hz (j := 0) (d := x0.1) rfl rfl
      have w1 := weights_struct Tryz.underlying27 hz (j := 1) (d := x1.1) rfl rfl
      have w2 := weights_struct Tryz.underlying27 hz (j := 2) (d := x2.1) rfl rfl
      simp only [List.drop_succ_cons, List.drop_zero, List.take_succ_cons, List.take_zero] at g0
      obtain ⟨s, e1, r1⟩ := open_str g0 w0
      obtain ⟨k, m, A, n, c, ys, e2, r2⟩ := open_effect g1 w1
      obtain ⟨B, q, d, zs, e3, r3⟩ := open_spans g2 w2
      obtain ⟨t, e4, _, _⟩ := DataW.trod_int Tryz.underlying3 g3
      simp only [List.drop_succ_cons, List.drop_zero, List.take_succ_cons, List.take_zero, List.cons.injEq, and_true] at e2 e3 e4
      obtain ⟨rfl, rfl, rfl⟩ := e2
      subst e1 e3 e4
      refine ⟨⟨s, k, m, A, n, c, B, q, d, t⟩, ⟨s.data.toList, k, m, ys, zs, t⟩, rfl, ⟨(strOf_of s).symm, rfl, rfl, r2.1.len.symm, r3.1.len.symm, r2.1, r3.1, rfl⟩, ?_⟩
      have hs : s.data.toList.length = s.size := rfl
      have l2 := r2.1.len
      have l3 := r3.1.len
      refine ⟨?_, ?_, ?_⟩
      all_goals (simp only; omega)
end
section
def TabN (_ : World) : Prop := True
theorem TabN.laid {W : World} (_h : laidMetH Tryz.prog tables W) : TabN W := trivial
end
end Go.Proofs.YtcnbgdplkobenaaGreatDoor
