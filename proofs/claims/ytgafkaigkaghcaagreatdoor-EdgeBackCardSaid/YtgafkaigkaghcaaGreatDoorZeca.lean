/- An archive's bytes are read as it, and back: purely. EdgeBack. -/
import Derived.Test.YtgafkaigkaghcaaGreatDoorZeag
import Derived.Test.YtgafkaigkaghcaaGreatDoorZeba
import Derived.Test.YtgafkaigkaghcaaGreatDoorZead
import Derived.Test.YtgafkaigkaghcaaGreatDoorZean
import Derived.Deep.Cut
namespace Go.Proofs.YtgafkaigkaghcaaGreatDoor
section
open Go.RowKit Go.Lib
set_option linter.unusedSimpArgs false
set_option linter.unusedVariables false


theorem rNum_in {xs : List UInt8} {p : Nat} {fe fa low high : Int} (hp : p ≤ xs.length) (he : (rNum xs p fe fa low high).2.2.1 = 0) : low ≤ (rNum xs p fe fa low high).1 ∧ (rNum xs p fe fa low high).1 ≤ high := by
  unfold rNum at he ⊢
  split at he
  · rename_i h; exact absurd he h
  · rename_i h
    rw [if_neg h]
    cases hn : numAt xs p low high with
    | error x =>
      obtain ⟨f, q⟩ := x
      simp only [hn] at he
      have := numAt_err hn
      omega
    | ok x =>
      obtain ⟨n, q⟩ := x
      have hok := numAt_ok hn hp
      exact ⟨by simp only; omega, by simp only; omega⟩

def arB (n : Int) (q : List Sp) : List UInt8 := enc n.toNat ++ (enc (spansB q).length ++ spansB q)
theorem spansB_len_ {xs : List Sp} (h : chkS xs = 0) : (spansB xs).length ≤ 36002 := by
  have := (chkS_zero h).1
  show (UInt8.ofNat (xs.length / 256) :: UInt8.ofNat xs.length :: xs.flatMap spanB).length ≤ 36002
  rw [List.length_cons, List.length_cons, flat_len]
  omega
theorem enc9_ (n : Nat) (h : n < 18446744073709551616) : (enc n).length ≤ 9 := by
  have := nb_le n h
  rw [enc_len]
  omega
theorem bytesA_ok {n : Int} {q : List Sp} (h : chkA n q = 0) : bytesA n q = (arB n q, 0) := by
  obtain ⟨h1, h2, h3⟩ := chkA_ok h
  have l1 := enc9_ n.toNat (by omega)
  have x2 := spansB_len_ h3
  have l2 := enc9_ (spansB q).length (by omega)
  have k1 := nb_le n.toNat (by omega)
  have k2 := nb_le (spansB q).length (by omega)
  have bo : bytesO q = spansB q := if_pos h3
  have w0 : aW0 n = (enc n.toNat, 0) := by
    unfold aW0 wNum
    rw [if_neg (by simp), if_neg (by omega), if_neg (by simp; omega)]
    rfl
  have w1 : aW1 n q = (enc n.toNat ++ enc (spansB q).length ++ spansB q, 0) := by
    unfold aW1
    rw [w0, bo]
    unfold wRaw
    rw [if_neg (by simp), if_neg (by simp only; omega)]
  unfold bytesA
  rw [if_pos h, w1]
  unfold outs arB
  simp
theorem arB_len {n : Int} {q : List Sp} (h : chkA n q = 0) : (arB n q).length ≤ 100000 := by
  obtain ⟨h1, h2, h3⟩ := chkA_ok h
  have l1 := enc9_ n.toNat (by omega)
  have x2 := spansB_len_ h3
  have l2 := enc9_ (spansB q).length (by omega)
  unfold arB
  simp only [List.length_append]
  omega
theorem bytesA_two (n : Int) (q : List Sp) : (bytesA n q).2 = chkA n q := by
  rcases chkA_two n q with h | h
  · rw [bytesA_ok h, h]
  · unfold bytesA
    rw [if_neg (by omega), h]
theorem ar_back {n : Int} {q : List Sp} (h : chkA n q = 0) : readA (arB n q) = ((n, q), (0, 0)) := by
  obtain ⟨h1, h2, h3⟩ := chkA_ok h
  have x2 := spansB_len_ h3
  have n1 : rN (arB n q) = (n, (enc n.toNat).length, 0, 0) := by
    unfold rN
    have := rNum_go [] (enc (spansB q).length ++ spansB q) n 1 200 (by omega) (by omega) h1 h2 0
    have e0 : arB n q = [] ++ (enc n.toNat ++ (enc (spansB q).length ++ spansB q)) := by unfold arB; simp
    rw [e0]
    simpa using this
  have n2 : rR (arB n q) = (spansB q, (arB n q).length, 0, 0) := by
    unfold rR
    rw [n1]
    have e0 : arB n q = enc n.toNat ++ ((enc (spansB q).length ++ spansB q) ++ []) := by unfold arB; simp
    rw [e0]
    simp only
    rw [rRaw_go (enc n.toNat) (spansB q) [] 40000 0 (by omega) (by omega)]
    simp
  have nf : rF (arB n q) = (0, 0) := by
    unfold rF
    rw [n2]
    unfold endR
    simp
  have rs := read_back h3
  have bo : bytesO q = spansB q := if_pos h3
  rw [bo] at rs
  rw [readA_yes (by rw [nf]) (by rw [n2]; simp only; rw [rs]), n1, n2]
  simp only
  rw [rs]
theorem ar_again {xs : List UInt8} (h : (readA xs).2.1 = 0) : chkA (readA xs).1.1 (readA xs).1.2 = 0 ∧ arB (readA xs).1.1 (readA xs).1.2 = xs := by
  by_cases hf : (rF xs).1 = 0
  · by_cases hg : (readS (rR xs).1).2.1 = 0
    · rw [readA_yes hf hg]
      have rb := bytes_back hg
      obtain ⟨z1, z2, _, hp⟩ := rN_calm hf
      have l1 : (rN xs).2.1 ≤ xs.length := by unfold rN; exact rNum_le (by omega)
      have tk := rNum_take (xs := xs) (p := 0) (fe := 0) (fa := 0) (low := 1) (high := 200) (by omega) (by unfold rN at z1; exact z1)
      have t1 := tk.1
      have t2 := rRaw_take (xs := xs) l1 (by unfold rR at z2; exact z2)
      change xs.take (rN xs).2.1 = _ ++ enc (rN xs).1.toNat at t1
      change xs.take (rR xs).2.1 = _ ++ (enc (rR xs).1.length ++ (rR xs).1) at t2
      rw [List.take_of_length_le hp, t1] at t2
      have bo : bytesO (readS (rR xs).1).1 = spansB (readS (rR xs).1).1 := if_pos rb.2
      have rb1 := rb.1
      rw [bo] at rb1
      refine ⟨?_, ?_⟩
      · unfold chkA
        have rg := rNum_in (xs := xs) (p := 0) (fe := 0) (fa := 0) (low := 1) (high := 200) (by omega) (by unfold rN at z1; exact z1)
        rw [if_pos ⟨rg.1, rg.2, rb.2⟩]
      · unfold arB
        simp only
        rw [rb1]
        rw [List.take_zero, List.nil_append] at t2
        exact t2.symm
    · rw [readA_odd hf hg] at h
      exact absurd h (by decide)
  · rw [readA_bad hf] at h
    exact absurd h hf
theorem ar_fault {xs : List UInt8} (h : (readA xs).2.1 ≠ 0) : (readA xs).1 = (0, []) := by
  by_cases hf : (rF xs).1 = 0
  · by_cases hg : (readS (rR xs).1).2.1 = 0
    · rw [readA_yes hf hg] at h
      exact absurd rfl h
    · rw [readA_odd hf hg]
  · rw [readA_bad hf]
end
section
open Go.RowKit Go.Lib
set_option linter.unusedSimpArgs false
set_option linter.unusedVariables false


set_option maxRecDepth 100000 in
set_option maxHeartbeats 16000000 in
theorem edgeback_yes (w : World) (n : Int) (B : Option Addr) (bl bc : Nat) (q : List Sp) (D : Option Addr) (m d : Nat) (ys : List UInt8) (ha : RdK spanTy w B bl q) (hq : bl * 24 ≤ 140737488351232) (hb : Bs w D m ys) (hn : m ≤ 140737488351232) :
    Calls Tryz.prog 5 #[.agg #[.int .i64 n, .slice B bl bc], .slice D m d] w fun r w' => r = .returned (.bool true) ∧ Chg [] w w' := by
  have hl := hb.len
  subst hl
  have hl2 := ha.len
  subst hl2
  obtain ⟨w1, hw, hc, b0⟩ := news1 w (.cells #[.int .i64 n, .slice B q.length bc] 24)
  have W1 := Lib.hid hw
  have B0 := Lib.hid b0
  have HB := Lib.hid (hb.chg hc (by simp))
  have HA := Lib.hid (ha.chg hc (by simp))
  have C := Lib.hid hc
  have HQ := Lib.hid hq
  clear hw hc b0 hb ha hn hq
  go_enter Tryz.func5, Tryz.ntmps5
  go_upto_region 1 with fail
  rw [← W1.out]
  generalize w.heap.size = g0 at *
  clear W1
  go_wp2_with fail
  refine (edgeAwake_run _).mono ?_
  rintro r w2 ⟨rfl, hc⟩
  replace C := Lib.hid (C.out.trans hc)
  replace HB := Lib.hid (HB.out.chg hc (by simp))
  replace HA := Lib.hid (HA.out.chg hc (by simp))
  replace B0 := Lib.hid (hc.at_ B0.out (by simp))
  clear hc
  have z0 := cell_of B0.out 0
  have z1 := cell_of B0.out 1
  simp only [List.getElem?_toArray, List.getElem?_cons_succ, List.getElem?_cons_zero] at z0 z1
  by_cases h1 : 100 < q.length
  · skip
    have h1 : (100 : Int) < (q.length : Int) := by omega
    go_wp2
    go_ret
    first | exact C.out | exact ⟨rfl, C.out⟩
  have h1i : ¬ (100 : Int) < (q.length : Int) := by omega
  by_cases h2 : 2000 < ys.length
  · skip
    have h2 : (2000 : Int) < (ys.length : Int) := by omega
    go_wp2
    go_ret
    first | exact C.out | exact ⟨rfl, C.out⟩
  have h2i : ¬ (2000 : Int) < (ys.length : Int) := by omega
  have HM : Hid (ys.length ≤ 2000 ∧ q.length ≤ 100) := Lib.hid (by omega)
  clear h1 h2
  go_wp2_with fail
  clear h1i h2i
  clear z0 z1
  refine (edbytes_any w2 n B bc q HA.out (by have := HM.out; omega)).mono ?_
  rintro r w3 ⟨A5, c5, rfl, h5⟩
  have O5 := Lib.hid h5.1
  have hc := h5.2.2
  rw [bytesA_two]
  clear h5
  replace C := Lib.hid (C.out.trans hc)
  replace HB := Lib.hid (HB.out.chg hc (by simp))
  replace HA := Lib.hid (HA.out.chg hc (by simp))
  replace B0 := Lib.hid (hc.at_ B0.out (by simp))
  clear hc
  have z0 := cell_of B0.out 0
  have z1 := cell_of B0.out 1
  simp only [List.getElem?_toArray, List.getElem?_cons_succ, List.getElem?_cons_zero] at z0 z1
  go_wp2_with fail
  clear z0 z1
  refine (edcheck_any w3 n B _ bc q HA.out (by have := HM.out; omega)).mono ?_
  rintro r w4 ⟨rfl, hc⟩
  replace C := Lib.hid (C.out.trans hc)
  replace HB := Lib.hid (HB.out.chg hc (by simp))
  replace HA := Lib.hid (HA.out.chg hc (by simp))
  replace B0 := Lib.hid (hc.at_ B0.out (by simp))
  replace O5 := Lib.hid (O5.out.chg hc (by simp))
  clear hc
  rcases chkA_two n q with hk | hk
  rotate_left
  · skip
    rw [hk]
    have HK := Lib.hid hk
    clear hk O5
    go_upto_region 11 with fail
    obtain ⟨R, hR⟩ : ∃ R, readA ys = R := ⟨_, rfl⟩
    have RE := Lib.hid hR
    clear hR
    go_wp2_with fail
    refine (edread_any w4 D _ d ys HB.out (by have := HM.out; omega)).mono ?_
    rintro r wr ⟨A7, c7, rfl, ho, -, hc⟩
    rw [RE.out] at ho ⊢
    have O7 := Lib.hid ho.reads
    replace C := Lib.hid (C.out.trans hc)
    replace HB := Lib.hid (HB.out.chg hc (by simp))
    replace HA := Lib.hid (HA.out.chg hc (by simp))
    replace B0 := Lib.hid (hc.at_ B0.out (by simp))
    clear ho hc
    obtain ⟨wq, hw, hc, b8, b9⟩ := news2 wr (.cells #[.int .i64 R.1.1, .slice A7 R.1.2.length c7] 24) (.cells #[.int .i64 R.2.1, .int .i64 R.2.2] 46)
    have WQ := Lib.hid hw
    have B8 := Lib.hid b8
    have B9 := Lib.hid b9
    clear hw b8 b9
    replace C := Lib.hid (C.out.trans hc)
    replace HB := Lib.hid (HB.out.chg hc (by simp))
    replace HA := Lib.hid (HA.out.chg hc (by simp))
    replace B0 := Lib.hid (hc.at_ B0.out (by simp))
    replace O7 := Lib.hid (O7.out.chg hc (by simp))
    clear hc
    go_upto_region 12 with fail
    rw [← WQ.out]
    generalize wr.heap.size + 1 = s9 at *
    generalize wr.heap.size = s8 at *
    clear WQ
    have z0 := cell_of B8.out 0
    have z1 := cell_of B8.out 1
    simp only [List.getElem?_toArray, List.getElem?_cons_succ, List.getElem?_cons_zero] at z0 z1
    have y0 := cell_of B9.out 0
    have y1 := cell_of B9.out 1
    simp only [List.getElem?_toArray, List.getElem?_cons_succ, List.getElem?_cons_zero] at y0 y1
    by_cases hr : R.2.1 = 0
    rotate_left
    · skip
      have r1 : (R.2.1 != 0) = true := bne_iff_ne.2 hr
      have r2 : (R.2.1 == 0) = false := beq_eq_false_iff_ne.2 hr
      have FZ : Hid (R.1 = (0, [])) := Lib.hid (by rw [← RE.out]; exact ar_fault (by rw [RE.out]; exact hr))
      go_wp2_with fail
      clear r1 r2 hr
      clear z0 z1
      clear y0 y1
      refine (edsame_any wq R.1.1 A7 _ c7 R.1.2 0 none 0 0 [] O7.out (RdK.nil _ _) (by rw [FZ.out]; exact Nat.zero_le _) (Nat.zero_le _)).mono ?_
      rintro r ws ⟨rfl, hc⟩
      have SZ : (decide (R.1.1 = 0) && (R.1.2 == [])) = true := by rw [FZ.out]; rfl
      rw [SZ]
      clear SZ
      replace C := Lib.hid (C.out.trans hc)
      replace HB := Lib.hid (HB.out.chg hc (by simp))
      replace HA := Lib.hid (HA.out.chg hc (by simp))
      replace B0 := Lib.hid (hc.at_ B0.out (by simp))
      replace O7 := Lib.hid (O7.out.chg hc (by simp))
      replace B8 := Lib.hid (hc.at_ B8.out (by simp))
      replace B9 := Lib.hid (hc.at_ B9.out (by simp))
      go_wp2
      go_ret
      exact ⟨(by first | rfl | simp), C.out⟩
    have AG := Lib.hid (ar_again (xs := ys) (by rw [RE.out]; exact hr))
    rw [RE.out] at AG
    have r1 : (R.2.1 != 0) = false := by simpa using hr
    have AG := Lib.hid (RE.out ▸ ar_again (xs := ys) (by rw [RE.out]; exact hr))
    have r1 : (R.2.1 != 0) = false := by simpa using hr
    have QL : Hid (R.1.2.length ≤ 4000) := Lib.hid (chkS_zero (chkA_ok AG.out.1).2.2).1
    go_wp2_with fail
    clear r1 hr
    clear z0 z1
    clear y0 y1
    refine (edbytes_any wq R.1.1 A7 c7 R.1.2 O7.out (by have := QL.out; omega)).mono ?_
    rintro r wb ⟨A9, c9, rfl, h9⟩
    rw [bytesA_ok AG.out.1, AG.out.2] at h9 ⊢
    have O9 := Lib.hid h9.1
    have hc := h9.2.2
    clear h9
    replace C := Lib.hid (C.out.trans hc)
    replace HB := Lib.hid (HB.out.chg hc (by simp))
    replace HA := Lib.hid (HA.out.chg hc (by simp))
    replace B0 := Lib.hid (hc.at_ B0.out (by simp))
    replace O7 := Lib.hid (O7.out.chg hc (by simp))
    replace B8 := Lib.hid (hc.at_ B8.out (by simp))
    replace B9 := Lib.hid (hc.at_ B9.out (by simp))
    clear hc
    go_wp2_with fail
    refine (same_any wb A9 D _ _ c9 d ys ys O9.out.reads HB.out).mono ?_
    rintro r wc ⟨rfl, rfl⟩
    rw [beq_self_eq_true]
    go_wp2
    go_ret
    exact ⟨(by first | rfl | simp), C.out⟩
  rw [hk]
  have HK := Lib.hid hk
  clear hk
  have eb := bytesA_ok HK.out
  rw [eb] at O5
  clear eb
  have BL := Lib.hid (arB_len HK.out)
  have EK := Lib.hid (ar_back HK.out)
  have O6 := Lib.hid O5.out.reads
  clear O5
  have LE : Hid ((bytesA n q).1.length = (arB n q).length) := Lib.hid (by rw [bytesA_ok HK.out])
  rw [LE.out]
  go_upto_region 8 with fail
  go_wp2_with fail
  refine (edread_any w4 A5 _ c5 (arB n q) O6.out BL.out).mono ?_
  rintro r w5 ⟨A6, c6, rfl, ho, -, hc⟩
  rw [EK.out] at ho ⊢
  have P6 := Lib.hid ho.reads
  replace C := Lib.hid (C.out.trans hc)
  replace HB := Lib.hid (HB.out.chg hc (by simp))
  replace HA := Lib.hid (HA.out.chg hc (by simp))
  replace B0 := Lib.hid (hc.at_ B0.out (by simp))
  replace O6 := Lib.hid (O6.out.chg hc (by simp))
  clear ho hc O6
  obtain ⟨w6, hw, hc, b8, b9⟩ := news2 w5 (.cells #[.int .i64 n, .slice A6 q.length c6] 24) (.cells #[.int .i64 0, .int .i64 0] 46)
  have WP := Lib.hid hw
  have B8 := Lib.hid b8
  have B9 := Lib.hid b9
  clear hw b8 b9
  replace C := Lib.hid (C.out.trans hc)
  replace HB := Lib.hid (HB.out.chg hc (by simp))
  replace HA := Lib.hid (HA.out.chg hc (by simp))
  replace B0 := Lib.hid (hc.at_ B0.out (by simp))
  replace P6 := Lib.hid (P6.out.chg hc (by simp))
  clear hc
  go_upto_region 9 with fail
  rw [← WP.out]
  generalize w5.heap.size + 1 = s9 at *
  generalize w5.heap.size = s8 at *
  clear WP
  have x0 := cell_of B0.out 0
  have x1 := cell_of B0.out 1
  simp only [List.getElem?_toArray, List.getElem?_cons_succ, List.getElem?_cons_zero] at x0 x1
  have z0 := cell_of B8.out 0
  have z1 := cell_of B8.out 1
  simp only [List.getElem?_toArray, List.getElem?_cons_succ, List.getElem?_cons_zero] at z0 z1
  have y0 := cell_of B9.out 0
  have y1 := cell_of B9.out 1
  simp only [List.getElem?_toArray, List.getElem?_cons_succ, List.getElem?_cons_zero] at y0 y1
  go_wp2_with fail
  clear x0 x1
  clear z0 z1
  clear y0 y1
  refine (edsame_any w6 n A6 _ c6 q n B _ bc q P6.out HA.out (by have := HM.out; omega) (by have := HM.out; omega)).mono ?_
  rintro r w7 ⟨rfl, hc⟩
  rw [decide_eq_true rfl, beq_self_eq_true, Bool.and_self]
  replace C := Lib.hid (C.out.trans hc)
  replace HB := Lib.hid (HB.out.chg hc (by simp))
  replace HA := Lib.hid (HA.out.chg hc (by simp))
  replace B0 := Lib.hid (hc.at_ B0.out (by simp))
  replace P6 := Lib.hid (P6.out.chg hc (by simp))
  replace B8 := Lib.hid (hc.at_ B8.out (by simp))
  replace B9 := Lib.hid (hc.at_ B9.out (by simp))
  clear hc P6 B8 B9
  go_upto_region 11 with fail
  obtain ⟨R, hR⟩ : ∃ R, readA ys = R := ⟨_, rfl⟩
  have RE := Lib.hid hR
  clear hR
  go_wp2_with fail
  refine (edread_any w7 D _ d ys HB.out (by have := HM.out; omega)).mono ?_
  rintro r wr ⟨A7, c7, rfl, ho, -, hc⟩
  rw [RE.out] at ho ⊢
  have O7 := Lib.hid ho.reads
  replace C := Lib.hid (C.out.trans hc)
  replace HB := Lib.hid (HB.out.chg hc (by simp))
  replace HA := Lib.hid (HA.out.chg hc (by simp))
  replace B0 := Lib.hid (hc.at_ B0.out (by simp))
  clear ho hc
  obtain ⟨wq, hw, hc, b8, b9⟩ := news2 wr (.cells #[.int .i64 R.1.1, .slice A7 R.1.2.length c7] 24) (.cells #[.int .i64 R.2.1, .int .i64 R.2.2] 46)
  have WQ := Lib.hid hw
  have B8 := Lib.hid b8
  have B9 := Lib.hid b9
  clear hw b8 b9
  replace C := Lib.hid (C.out.trans hc)
  replace HB := Lib.hid (HB.out.chg hc (by simp))
  replace HA := Lib.hid (HA.out.chg hc (by simp))
  replace B0 := Lib.hid (hc.at_ B0.out (by simp))
  replace O7 := Lib.hid (O7.out.chg hc (by simp))
  clear hc
  go_upto_region 12 with fail
  rw [← WQ.out]
  generalize wr.heap.size + 1 = s9 at *
  generalize wr.heap.size = s8 at *
  clear WQ
  have z0 := cell_of B8.out 0
  have z1 := cell_of B8.out 1
  simp only [List.getElem?_toArray, List.getElem?_cons_succ, List.getElem?_cons_zero] at z0 z1
  have y0 := cell_of B9.out 0
  have y1 := cell_of B9.out 1
  simp only [List.getElem?_toArray, List.getElem?_cons_succ, List.getElem?_cons_zero] at y0 y1
  by_cases hr : R.2.1 = 0
  rotate_left
  · skip
    have r1 : (R.2.1 != 0) = true := bne_iff_ne.2 hr
    have r2 : (R.2.1 == 0) = false := beq_eq_false_iff_ne.2 hr
    have FZ : Hid (R.1 = (0, [])) := Lib.hid (by rw [← RE.out]; exact ar_fault (by rw [RE.out]; exact hr))
    go_wp2_with fail
    clear r1 r2 hr
    clear z0 z1
    clear y0 y1
    refine (edsame_any wq R.1.1 A7 _ c7 R.1.2 0 none 0 0 [] O7.out (RdK.nil _ _) (by rw [FZ.out]; exact Nat.zero_le _) (Nat.zero_le _)).mono ?_
    rintro r ws ⟨rfl, hc⟩
    have SZ : (decide (R.1.1 = 0) && (R.1.2 == [])) = true := by rw [FZ.out]; rfl
    rw [SZ]
    clear SZ
    replace C := Lib.hid (C.out.trans hc)
    replace HB := Lib.hid (HB.out.chg hc (by simp))
    replace HA := Lib.hid (HA.out.chg hc (by simp))
    replace B0 := Lib.hid (hc.at_ B0.out (by simp))
    replace O7 := Lib.hid (O7.out.chg hc (by simp))
    replace B8 := Lib.hid (hc.at_ B8.out (by simp))
    replace B9 := Lib.hid (hc.at_ B9.out (by simp))
    go_wp2
    go_ret
    exact ⟨(by first | rfl | simp), C.out⟩
  have AG := Lib.hid (ar_again (xs := ys) (by rw [RE.out]; exact hr))
  rw [RE.out] at AG
  have r1 : (R.2.1 != 0) = false := by simpa using hr
  have AG := Lib.hid (RE.out ▸ ar_again (xs := ys) (by rw [RE.out]; exact hr))
  have r1 : (R.2.1 != 0) = false := by simpa using hr
  have QL : Hid (R.1.2.length ≤ 4000) := Lib.hid (chkS_zero (chkA_ok AG.out.1).2.2).1
  go_wp2_with fail
  clear r1 hr
  clear z0 z1
  clear y0 y1
  refine (edbytes_any wq R.1.1 A7 c7 R.1.2 O7.out (by have := QL.out; omega)).mono ?_
  rintro r wb ⟨A9, c9, rfl, h9⟩
  rw [bytesA_ok AG.out.1, AG.out.2] at h9 ⊢
  have O9 := Lib.hid h9.1
  have hc := h9.2.2
  clear h9
  replace C := Lib.hid (C.out.trans hc)
  replace HB := Lib.hid (HB.out.chg hc (by simp))
  replace HA := Lib.hid (HA.out.chg hc (by simp))
  replace B0 := Lib.hid (hc.at_ B0.out (by simp))
  replace O7 := Lib.hid (O7.out.chg hc (by simp))
  replace B8 := Lib.hid (hc.at_ B8.out (by simp))
  replace B9 := Lib.hid (hc.at_ B9.out (by simp))
  clear hc
  go_wp2_with fail
  refine (same_any wb A9 D _ _ c9 d ys ys O9.out.reads HB.out).mono ?_
  rintro r wc ⟨rfl, rfl⟩
  rw [beq_self_eq_true]
  go_wp2
  go_ret
  exact ⟨(by first | rfl | simp), C.out⟩
end
end Go.Proofs.YtgafkaigkaghcaaGreatDoor
