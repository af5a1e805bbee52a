/- EdgeReads. Arguments opened: bytes, numbers, texts: from the data that a row reads to the cells that a walk goes over. Nothing is asked of the variables. -/
import Derived.Test.YtgafkaigkaghcaaGreatDoorZeag
import Derived.Test.YtgafkaigkaghcaaGreatDoorZeah
import Derived.Test.YtgafkaigkaghcaaGreatDoorZeam
import Derived.Test.YtgafkaigkaghcaaGreatDoorZeab
import Derived.Deep.Cut
import Derived.Test.YtgafkaigkaghcaaGreatDoorZeaa
import Derived.Deep.Slices
import Derived.Deep.Fields
import Derived.ChangeSame
import Derived.SizedLaws
import Derived.ChangeArms
import Derived.ChangeSlices
import Derived.OpenShut
import Derived.ProofKit
import Derived.Test.YtgafkaigkaghcaaGreatDoorLaid0
namespace Go.Proofs.YtgafkaigkaghcaaGreatDoor
section
open Go.RowKit Go.Lib
set_option linter.unusedSimpArgs false
set_option linter.unusedVariables false


theorem Lent.lt8_ {w : World} {g : Nat} {xs : List UInt8} (h : Lent w g xs) : g < w.heap.size := by
  obtain ⟨full, hg, _⟩ := h
  exact lt_of_heap hg
theorem readA_len (xs : List UInt8) : (readA xs).1.2.length ≤ xs.length := by
  unfold readA
  split
  · simp
  · split
    · simp
    · have a := readS_bytes (rR xs).1
      have b : (rR xs).1.length ≤ xs.length := (rRaw_le (rNum_le (Nat.zero_le _))).1
      show (readS (rR xs).1).1.length ≤ xs.length
      omega

set_option maxRecDepth 100000 in
set_option maxHeartbeats 8000000 in
theorem edsame_any (w : World) (n : Int) (B : Option Addr) (bl bc : Nat) (q : List Sp) (m : Int) (D : Option Addr) (dl dc : Nat) (k : List Sp) (h : RdK spanTy w B bl q) (h2 : RdK spanTy w D dl k) (hn : bl ≤ 140737488351232) (hm : dl ≤ 140737488351232) :
    Calls Tryz.prog 18 #[.agg #[.int .i64 n, .slice B bl bc], .agg #[.int .i64 m, .slice D dl dc]] w fun r w' => r = .returned (.bool (decide (n = m) && (q == k))) ∧ Chg [] w w' := by
  obtain ⟨w1, hw, hc, b0, b1⟩ := news2 w (.cells #[.int .i64 n, .slice B bl bc] 24) (.cells #[.int .i64 m, .slice D dl dc] 24)
  have W1 := Lib.hid hw
  have H := Lib.hid (h.chg hc (by simp))
  have H2 := Lib.hid (h2.chg hc (by simp))
  have C := Lib.hid hc
  have HN := Lib.hid (And.intro hn hm)
  generalize hv : (decide (n = m) && (q == k)) = v
  have HV := Lib.hid hv
  have z0 := cell_of b0 0
  have z1 := cell_of b0 1
  have y0 := cell_of b1 0
  have y1 := cell_of b1 1
  simp only [List.getElem?_toArray, List.getElem?_cons_succ, List.getElem?_cons_zero] at z0 z1 y0 y1
  clear hw hc b0 b1 h h2 hn hm hv
  go_enter Tryz.func18, Tryz.ntmps18
  go_upto_region 1 with fail
  rw [← W1.out]
  generalize w.heap.size + 1 = g1 at *
  generalize w.heap.size = g0 at *
  clear W1
  by_cases he : n = m
  · have e1 : ((n == m) : Bool) = true := by rw [he]; exact beq_self_eq_true _
    have HW : Hid ((q == k) = v) := Lib.hid (by rw [← HV.out, decide_eq_true he]; rfl)
    clear he
    go_wp2_with fail
    clear z0 z1 y0 y1
    refine (samespan_any w1 B D bl dl bc dc q k H.out H2.out HN.out.1 HN.out.2).mono ?_
    rintro r w2 ⟨rfl, hc⟩
    replace C := Lib.hid (C.out.trans hc)
    clear hc
    rw [HW.out]
    go_wp2
    go_ret
    exact ⟨rfl, C.out⟩
  · have e1 : ((n == m) : Bool) = false := beq_eq_false_iff_ne.2 he
    obtain rfl : v = false := by rw [← HV.out, decide_eq_false he]; rfl
    go_wp2
    go_ret
    exact ⟨rfl, C.out⟩

set_option maxRecDepth 100000 in
set_option maxHeartbeats 16000000 in
theorem edgereads_yes (w : World) (B : Option Addr) (m d : Nat) (ys : List UInt8) (hb : Bs w B m ys) (hn : m ≤ 140737488351232) (hc1 : m ≤ d) (hc2 : d ≤ 9223372036854775807) :
    Calls Tryz.prog 4 #[.slice B m d] w fun r w' => r = .returned (.bool true) ∧ Chg [] w w' := by
  have hl := hb.len
  subst hl
  have HB := Lib.hid hb
  have HB0 := Lib.hid hb
  have HC := Lib.hid (And.intro hc1 hc2)
  have C := Lib.hid (Chg.refl [] w)
  clear hb hc1 hc2 hn
  go_enter Tryz.func4, Tryz.ntmps4
  by_cases hbig : 2000 < ys.length
  · have h2 : (2000 : Int) < (ys.length : Int) := by omega
    go_wp2_with fail
    refine (edgeAwake_run _).mono ?_
    rintro e w2 ⟨rfl, hc⟩
    have C := Lib.hid (C.out.trans hc)
    clear hc
    go_wp2
    go_ret
    exact ⟨rfl, C.out⟩
  have h2 : ¬ (2000 : Int) < (ys.length : Int) := by omega
  have HM : Hid (ys.length ≤ 2000) := Lib.hid (by omega)
  clear hbig
  go_wp2_with fail
  clear h2
  refine (lent_any _ B _ d ys HB.out (by have := HM.out; omega)).mono ?_
  rintro r w1 ⟨g, rfl, hL, hg, hc⟩
  have HL := Lib.hid hL
  have LG := Lib.hid hL.lt8_
  replace C := Lib.hid (C.out.trans hc)
  replace HB := Lib.hid (HB.out.chg hc (by simp))
  clear hL hg hc
  have C1 := C
  obtain ⟨R, hR⟩ : ∃ R, readA ys = R := ⟨_, rfl⟩
  have RE := Lib.hid hR
  have RL : Hid (R.1.2.length ≤ 140737488351232) := Lib.hid (by rw [← hR]; have := readA_len ys; have := HM.out; omega)
  clear hR
  go_wp2_with fail
  refine (edread_any w1 (some ⟨g, 0, none⟩) _ _ ys HL.out.reads (by have := HM.out; omega)).mono ?_
  rintro r w2 ⟨A2, c2, rfl, ho, hnw, hc⟩
  rw [RE.out] at ho ⊢
  have O2 := Lib.hid ho
  have N2 := Lib.hid hnw
  replace C := Lib.hid (C.out.trans hc)
  replace HB := Lib.hid (HB.out.chg hc (by simp))
  replace HL := Lib.hid (HL.out.chg hc (by simp))
  clear ho hnw hc
  obtain ⟨w3, hw, hc, b4, b5⟩ := news2 w2 (.cells #[.int .i64 R.1.1, .slice A2 R.1.2.length c2] 24) (.cells #[.int .i64 R.2.1, .int .i64 R.2.2] 46)
  have WW := Lib.hid hw
  have B4 := Lib.hid b4
  have B5 := Lib.hid b5
  clear hw b4 b5
  replace C := Lib.hid (C.out.trans hc)
  replace HB := Lib.hid (HB.out.chg hc (by simp))
  replace HL := Lib.hid (HL.out.chg hc (by simp))
  replace O2 := Lib.hid (O2.out.chg hc (by simp))
  clear hc
  go_upto_region 5 with fail
  rw [← WW.out]
  generalize w2.heap.size + 1 = g5 at *
  generalize w2.heap.size = g4 at *
  clear WW
  go_wp2_with fail
  refine (fdread_any w3 B _ d ys HB.out (by have := HM.out; omega) HC.out).mono ?_
  rintro r w4 ⟨A4, c4, rfl, ho, -, hc⟩
  rw [RE.out] at ho ⊢
  have O4 := Lib.hid ho.reads
  replace C := Lib.hid (C.out.trans hc)
  replace HB := Lib.hid (HB.out.chg hc (by simp))
  replace HL := Lib.hid (HL.out.chg hc (by simp))
  replace O2 := Lib.hid (O2.out.chg hc (by simp))
  replace B4 := Lib.hid (hc.at_ B4.out (by simp))
  replace B5 := Lib.hid (hc.at_ B5.out (by simp))
  clear ho hc
  obtain ⟨w5, hw, hc, b6, b7⟩ := news2 w4 (.cells #[.int .i64 R.1.1, .slice A4 R.1.2.length c4] 24) (.cells #[.int .i64 R.2.1, .int .i64 R.2.2] 46)
  have WW := Lib.hid hw
  have B6 := Lib.hid b6
  have B7 := Lib.hid b7
  clear hw b6 b7
  replace C := Lib.hid (C.out.trans hc)
  replace HB := Lib.hid (HB.out.chg hc (by simp))
  replace HL := Lib.hid (HL.out.chg hc (by simp))
  replace O2 := Lib.hid (O2.out.chg hc (by simp))
  replace B4 := Lib.hid (hc.at_ B4.out (by simp))
  replace B5 := Lib.hid (hc.at_ B5.out (by simp))
  replace O4 := Lib.hid (O4.out.chg hc (by simp))
  clear hc
  go_upto_region 6 with fail
  rw [← WW.out]
  generalize w4.heap.size + 1 = g7 at *
  generalize w4.heap.size = g6 at *
  clear WW
  have z0 := cell_of B4.out 0
  have z1 := cell_of B4.out 1
  simp only [List.getElem?_toArray, List.getElem?_cons_succ, List.getElem?_cons_zero] at z0 z1
  have y0 := cell_of B6.out 0
  have y1 := cell_of B6.out 1
  simp only [List.getElem?_toArray, List.getElem?_cons_succ, List.getElem?_cons_zero] at y0 y1
  go_wp2_with fail
  clear z0 z1
  clear y0 y1
  refine (edsame_any w5 R.1.1 A2 _ c2 R.1.2 R.1.1 A4 _ c4 R.1.2 O2.out.reads O4.out RL.out RL.out).mono ?_
  rintro r w6 ⟨rfl, hc⟩
  rw [decide_eq_true rfl, beq_self_eq_true, Bool.and_self]
  replace C := Lib.hid (C.out.trans hc)
  replace HB := Lib.hid (HB.out.chg hc (by simp))
  replace HL := Lib.hid (HL.out.chg hc (by simp))
  replace O2 := Lib.hid (O2.out.chg hc (by simp))
  replace B4 := Lib.hid (hc.at_ B4.out (by simp))
  replace B5 := Lib.hid (hc.at_ B5.out (by simp))
  replace O4 := Lib.hid (O4.out.chg hc (by simp))
  replace B6 := Lib.hid (hc.at_ B6.out (by simp))
  replace B7 := Lib.hid (hc.at_ B7.out (by simp))
  clear hc O4
  have z0 := cell_of B4.out 0
  have z1 := cell_of B4.out 1
  simp only [List.getElem?_toArray, List.getElem?_cons_succ, List.getElem?_cons_zero] at z0 z1
  have u0 := cell_of B5.out 0
  have u1 := cell_of B5.out 1
  simp only [List.getElem?_toArray, List.getElem?_cons_succ, List.getElem?_cons_zero] at u0 u1
  have t0 := cell_of B7.out 0
  have t1 := cell_of B7.out 1
  simp only [List.getElem?_toArray, List.getElem?_cons_succ, List.getElem?_cons_zero] at t0 t1
  go_wp2_with fail
  clear z0 z1
  clear u0 u1
  clear t0 t1
  refine (overspan_own w6 A2 _ c2 R.1.2 O2.out rfl).mono ?_
  rintro r w7 ⟨rfl, h9⟩
  obtain ⟨S, hS, h9⟩ := over_only h9
  have hS2 : ∀ i ∈ S, w1.heap.size ≤ i := fun i hi => by obtain ⟨a, ha, q⟩ := hS i hi; rw [← q]; exact N2.out a ha
  replace C := Lib.hid (C.out.over C1.out hS2 h9)
  replace HL := Lib.hid (HL.out.chg h9 (fun q => absurd (hS2 _ q) (by have := LG.out; omega)))
  replace HB := Lib.hid (HB0.out.chg C.out (by simp))
  clear h9 hS hS2 O2 B4 B5 B6 B7
  go_wp2_with fail
  refine (kept_any w7 g B _ d ys HL.out HB.out (by have := HM.out; omega)).mono ?_
  rintro r w9 ⟨rfl, hc⟩
  replace C := Lib.hid (C.out.trans hc)
  replace HB := Lib.hid (HB.out.chg hc (by simp))
  replace HL := Lib.hid (HL.out.chg hc (by simp))
  clear hc
  go_wp2_with fail
  refine (edgeAwake_run _).mono ?_
  rintro r wa ⟨rfl, hc⟩
  replace C := Lib.hid (C.out.trans hc)
  replace HB := Lib.hid (HB.out.chg hc (by simp))
  replace HL := Lib.hid (HL.out.chg hc (by simp))
  clear hc
  go_wp2
  go_ret
  exact ⟨(by first | rfl | simp), C.out⟩
end
section
open Go.RowKit Go.WideShapes Go.ChangeShapes Go.Deep
section
variable {H : Type} {enc : TypeId × Value → H} {P : Program} {w : World} {base : Nat} {spare : Nat → Bool} {held : Bool}

theorem weights_all_mem {e : TypeId} : ∀ {l : List (DataW H)} {d : DataW H}, d ∈ l → ∀ n ∈ d.weights P e, n ∈ DataW.weightsAll P e l
  | x :: l, d, hd, n, hn => by
    simp only [DataW.weightsAll, List.mem_append]
    rcases List.mem_cons.1 hd with rfl | h
    · exact .inl hn
    · exact .inr (weights_all_mem h n hn)
theorem weights_slice {t e : TypeId} (ht : P.underlying t = some (.slice e)) {xs ys : List (DataW H)} (hz : ∀ k ∈ (DataW.slice xs ys).weights P t, k ≤ reachBytes) :
    (xs.length + ys.length) * P.bytesOf e ≤ reachBytes ∧ ∀ d ∈ xs, ∀ k ∈ d.weights P e, k ≤ reachBytes := by
  simp only [DataW.weights, ht, List.mem_cons, List.mem_append] at hz
  exact ⟨hz _ (.inl rfl), fun d hd k hk => hz k (.inr (.inl (weights_all_mem hd k hk)))⟩
theorem weights_struct {t : TypeId} {fs : Array Field} (ht : P.underlying t = some (.struct fs)) {xs : List (DataW H)} (hz : ∀ k ∈ (DataW.agg xs).weights P t, k ≤ reachBytes) {j : Nat} {f : Field} {d : DataW H} (hf : fs[j]? = some f) (hd : xs[j]? = some d) :
    ∀ k ∈ d.weights P f.type, k ≤ reachBytes := by
  simp only [DataW.weights, ht] at hz
  exact fun k hk => hz k (DataW.weights_mem_each (j := j) (by simp [hf]) hd k hk)

/-- A list of what is there for every number. -/
theorem list_of {α : Type} {Q : Nat → α → Prop} : ∀ (n : Nat), (∀ i, i < n → ∃ a, Q i a) → ∃ l : List α, l.length = n ∧ ∀ j a, l[j]? = some a → Q j a
  | 0, _ => ⟨[], rfl, by simp⟩
  | n + 1, h => by
    obtain ⟨l, h1, h2⟩ := list_of n (fun i hi => h i (by omega))
    obtain ⟨a, ha⟩ := h n (by omega)
    refine ⟨l ++ [a], by simp [h1], fun j b hj => ?_⟩
    rw [List.getElem?_append] at hj
    split at hj
    · exact h2 j b hj
    · rename_i hn
      have : j = n := by
        have := (List.getElem?_eq_some_iff.1 hj).1
        simp at this
        omega
      subst this
      rw [h1] at hj
      simp at hj
      subst hj
      exact ha
end
section
variable {H : Type} {enc : TypeId × Value → H} {w : World} {base : Nat} {spare : Nat → Bool} {held : Bool}

theorem open_bytes {n : Nat} {cs : List Value} {y : DataW H × List MemPlace} (h : DataW.trod enc Tryz.prog w base spare held n 34 cs = some y) (hz : ∀ k ∈ y.1.weights Tryz.prog 34, k ≤ reachBytes) :
    ∃ A m d ys, cs = [.slice A m d] ∧ Bs w A m ys ∧ m ≤ 140737488351232 ∧ m ≤ d ∧ d ≤ 9223372036854775807 := by
  rcases open_ints Tryz.underlying34 Tryz.underlying5 (by kernel_rfl) h with ⟨rfl, _⟩ | ⟨x, l, c, zs, rfl, _, hl, hm, hzl, rfl, hcell, hwz⟩
  · exact ⟨none, 0, 0, [], rfl, Bs.nil _ _, by decide, by decide, by decide⟩
  · have hlen : l ≤ zs.length := by rw [hzl]; split <;> omega
    have hw := (weights_slice Tryz.underlying34 hz).1
    rw [show Tryz.prog.bytesOf 5 = 1 by kernel_rfl] at hw
    refine ⟨some x, l, c, (zs.take l).map (fun z => UInt8.ofNat z.toNat), rfl, ⟨by simp; omega, fun j u hj => ⟨x, rfl, ?_⟩⟩, ?_, hl, by unfold maxLen at hm; omega⟩
    · have hjl := (List.getElem?_eq_some_iff.1 hj).1
      rw [List.length_map, List.length_take] at hjl
      have h1 : j < l := by omega
      have h2 : j < zs.length := by omega
      rw [hcell j h2]
      have hwz' := bounds_u8 (hwz (zs.getD j 0) (by simp [List.getD, h2]))
      simp only [List.getElem?_map, List.getElem?_take, if_pos h1, Option.map_eq_some_iff] at hj
      obtain ⟨z, h3, rfl⟩ := hj
      have e : zs.getD j 0 = z := by simp [List.getD, h3]
      rw [e] at hwz' ⊢
      unfold bv
      congr 2
      simp
      omega
    · simp [lits, reachBytes] at hw
      omega

theorem open_int1 {n : Nat} {v : Value} {y : DataW H × List MemPlace} (h : DataW.trod enc Tryz.prog w base spare held n 3 [v] = some y) : ∃ x : Int, v = .int .i64 x ∧ -9223372036854775808 ≤ x ∧ x ≤ 9223372036854775807 := by
  obtain ⟨z, e, _, b⟩ := DataW.trod_int Tryz.underlying3 h
  have hb := bounds_i64 b
  exact ⟨z, List.singleton_inj.1 e, hb.1, hb.2⟩
set_option maxRecDepth 100000 in
/-- A dot's two cells. -/
theorem open_dot {n : Nat} {cs : List Value} {y : DataW H × List MemPlace} (h : DataW.trod enc Tryz.prog w base spare held n 26 cs = some y) :
    ∃ (a b : Int), cs = [.int .i64 a, .int .i64 b] ∧ -9223372036854775808 ≤ a ∧ a ≤ 9223372036854775807 ∧ -9223372036854775808 ≤ b ∧ b ≤ 9223372036854775807 := by
  obtain ⟨xs, k, rfl, rfl, hl, hx, hf⟩ := DataW.trod_struct Tryz.underlying26 h
  rw [show Tryz.prog.cellsOf 26 = 2 by kernel_rfl] at hl
  have g0 := hf 0 _ rfl
  have g1 := hf 1 _ rfl
  change DataW.trod _ _ _ _ _ _ _ 3 ((cs.drop 0).take (Tryz.prog.cellsOf 3)) = _ at g0
  change DataW.trod _ _ _ _ _ _ _ 3 ((cs.drop 1).take (Tryz.prog.cellsOf 3)) = _ at g1
  rw [show Tryz.prog.cellsOf 3 = 1 by kernel_rfl] at g0 g1
  match cs, hl with
  | [v0, v1], _ =>
    match xs, hx with
    | [x0, x1], _ =>
      obtain ⟨z0, e0, _, b0⟩ := DataW.trod_int Tryz.underlying3 g0
      obtain ⟨z1, e1, _, b1⟩ := DataW.trod_int Tryz.underlying3 g1
      have c0 := bounds_i64 b0
      have c1 := bounds_i64 b1
      simp only [List.drop_succ_cons, List.drop_zero, List.take_succ_cons, List.take_zero, List.cons.injEq, and_true] at e0 e1
      subst e0 e1
      exact ⟨z0, z1, rfl, c0.1, c0.2, c1.1, c1.2⟩
end
end
section
def TabN (_ : World) : Prop := True
theorem TabN.laid {W : World} (_h : laidMetH Tryz.prog tables W) : TabN W := trivial
end
end Go.Proofs.YtgafkaigkaghcaaGreatDoor
