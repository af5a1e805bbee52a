/- The document's PutPacket. -/
import Derived.Test.YtelbahfmkpncaaaQsum
namespace Go.Proofs.Ytelbahfmkpncaaa
open Go.RowKit
set_option linter.unusedSimpArgs false
set_option linter.unusedVariables false

set_option maxHeartbeats 4000000 in
theorem qput_any (w : World) (f t m a : Int) (A : Option Addr) (n c : Nat) (ys : List UInt8) (h : Bs w A n ys) (hn : n ≤ 140737488351232) :
    Calls Try.prog 12 #[.agg #[.int .i64 f, .int .i64 t, .int .i64 m, .int .i64 a, .slice A n c]] w fun e w' => ∃ A' c', e = .returned (.tuple #[.slice A' (pkO f t m a ys).length c', .int .i64 (chkP f t m a n)]) ∧ Fresh w w' A' c' (pkO f t m a ys) := by
  have hl := h.len
  subst hl
  obtain ⟨w0, hw0⟩ : ∃ w0 : World, w0 = w.alloc (.cells #[.int .i64 f, .int .i64 t, .int .i64 m, .int .i64 a, .slice A ys.length c] 24) := ⟨_, rfl⟩
  have c0 : Chg [] w w0 := hw0 ▸ (Chg.refl [] w).alloc _
  have b0 : w0.heap[w.heap.size]? = some (.cells #[.int .i64 f, .int .i64 t, .int .i64 m, .int .i64 a, .slice A ys.length c] 24 (0, 0)) := hw0 ▸ heap_alloc_new w _
  have k0 := cell_of b0 0
  have k1 := cell_of b0 1
  have k2 := cell_of b0 2
  have k3 := cell_of b0 3
  have k4 := cell_of b0 4
  simp only [List.getElem?_toArray, List.getElem?_cons_succ, List.getElem?_cons_zero] at k0 k1 k2 k3 k4
  have H := Lib.hid (h.chg c0 (by simp))
  have W0 := Lib.hid hw0
  have C0 := Lib.hid c0
  clear hw0 c0 b0 h
  unfold pkO
  by_cases hf : FineP f t m a ys.length
  · rw [if_pos hf, chkP_fine hf]
    have hc := qcheck_any w0 f t m a A ys.length c hn
    rw [chkP_fine hf] at hc
    have HC := Lib.hid hc
    have FF := Lib.hid hf
    have hl4 : (enc f.toNat ++ enc t.toNat ++ enc m.toNat ++ enc a.toNat).length ≤ 36 := by
      have z0 := enc_le (x := f) ⟨by have := FF.out.1; omega, FF.out.2.1⟩
      have z1 := enc_le FF.out.2.2.1
      have z2 := enc_le FF.out.2.2.2.1
      have z3 := enc_le FF.out.2.2.2.2.1
      try simp only [List.length_append]
      omega
    have hy : ys.length ≤ 400 := FF.out.2.2.2.2.2.1
    have e5 := wRaw_ok (xs := enc f.toNat ++ enc t.toNat ++ enc m.toNat ++ enc a.toNat) (ys := ys) (by omega) (by omega)
    change _ = (pkB f t m a ys, 0) at e5
    have hb : (pkB f t m a ys).length ≤ 1000 := by
      have := nb_le ys.length (by omega)
      unfold pkB
      rw [List.length_append, List.length_append, enc_len]
      omega
    have E5 := Lib.hid e5
    have HB := Lib.hid hb
    have HL4 := Lib.hid hl4
    clear hl4 hy e5 hb
    generalize pkB f t m a ys = zs at *
    clear hf hc
    go_enter Try.func12, Try.ntmps12
    go_wp2_with fail
    rw [← W0.out]
    refine HC.out.mono ?_
    rintro e w1 ⟨rfl, c1⟩
    have C1 := Lib.hid c1
    clear c1
    have j0 := Lib.hid k0
    have j1 := Lib.hid k1
    have j2 := Lib.hid k2
    have j3 := Lib.hid k3
    have j4 := Lib.hid k4
    clear k0 k1 k2 k3 k4
    generalize w.heap.size = s at *
    have hv := vs_new w0 w1 C1.out
    have k0 := (hv.chg).cell j0.out (by simp)
    have K2 := Lib.hid hv
    clear hv
    go_wp2_with fail
    generalize w1.heap.size = b at *
    generalize w1.alloc (.cells #[.slice none 0 0, .int .i64 0] 60) = w2 at *
    have R1 : -9223372036854775808 ≤ f ∧ f ≤ 9223372036854775807 ∧ -9223372036854775808 ≤ t ∧ t ≤ 9223372036854775807 ∧ -9223372036854775808 ≤ m ∧ m ≤ 9223372036854775807 ∧ -9223372036854775808 ≤ a ∧ a ≤ 9223372036854775807 := by
      obtain ⟨x1, x2, x3, x4, x5, _⟩ := FF.out
      unfold inN at *
      omega
    have RR := Lib.hid R1
    clear R1
    have E2 := Lib.hid (wNum_ok (xs := []) (x := f) ⟨by have := FF.out.1; omega, FF.out.2.1⟩ (by simp))
    refine (vs_num w0 w2 b [] 0 f K2.out (by simp) RR.out.1 RR.out.2.1).mono ?_
    rintro e w3 ⟨rfl, h3⟩
    rw [E2.out, List.nil_append] at h3
    have k1 := h3.chg.cell j1.out (by simp)
    have K3 := Lib.hid h3
    clear h3 k0 K2
    have hl1 : (enc f.toNat).length ≤ 1000 := by
      have z0 := enc_le (x := f) ⟨by have := FF.out.1; omega, FF.out.2.1⟩
      have z1 := enc_le FF.out.2.2.1
      have z2 := enc_le FF.out.2.2.2.1
      have z3 := enc_le FF.out.2.2.2.2.1
      try simp only [List.length_append]
      omega
    have HL1 := Lib.hid hl1
    have N3 := Lib.hid (wNum_ok (x := t) FF.out.2.2.1 hl1)
    clear hl1
    go_wp2_with fail
    refine (vs_num w0 w3 b (enc f.toNat) 0 t K3.out (by have := HL1.out; omega) RR.out.2.2.1 RR.out.2.2.2.1).mono ?_
    rintro e w4 ⟨rfl, h4⟩
    rw [N3.out] at h4
    have k2 := h4.chg.cell j2.out (by simp)
    have K4 := Lib.hid h4
    clear h4 k1 K3
    have hl2 : (enc f.toNat ++ enc t.toNat).length ≤ 1000 := by
      have z0 := enc_le (x := f) ⟨by have := FF.out.1; omega, FF.out.2.1⟩
      have z1 := enc_le FF.out.2.2.1
      have z2 := enc_le FF.out.2.2.2.1
      have z3 := enc_le FF.out.2.2.2.2.1
      try simp only [List.length_append]
      omega
    have HL2 := Lib.hid hl2
    have N4 := Lib.hid (wNum_ok (x := m) FF.out.2.2.2.1 hl2)
    clear hl2
    go_wp2_with fail
    refine (vs_num w0 w4 b (enc f.toNat ++ enc t.toNat) 0 m K4.out (by have := HL2.out; omega) RR.out.2.2.2.2.1 RR.out.2.2.2.2.2.1).mono ?_
    rintro e w5 ⟨rfl, h5⟩
    rw [N4.out] at h5
    have k3 := h5.chg.cell j3.out (by simp)
    have K5 := Lib.hid h5
    clear h5 k2 K4
    have hl3 : (enc f.toNat ++ enc t.toNat ++ enc m.toNat).length ≤ 1000 := by
      have z0 := enc_le (x := f) ⟨by have := FF.out.1; omega, FF.out.2.1⟩
      have z1 := enc_le FF.out.2.2.1
      have z2 := enc_le FF.out.2.2.2.1
      have z3 := enc_le FF.out.2.2.2.2.1
      try simp only [List.length_append]
      omega
    have HL3 := Lib.hid hl3
    have N5 := Lib.hid (wNum_ok (x := a) FF.out.2.2.2.2.1 hl3)
    clear hl3
    go_wp2_with fail
    refine (vs_num w0 w5 b (enc f.toNat ++ enc t.toNat ++ enc m.toNat) 0 a K5.out (by have := HL3.out; omega) RR.out.2.2.2.2.2.2.1 RR.out.2.2.2.2.2.2.2).mono ?_
    rintro e w6 ⟨rfl, h6⟩
    rw [N5.out] at h6
    have K6 := Lib.hid h6
    clear h6 k3 K5
    have k4 := K6.out.chg.cell j4.out (by simp)
    go_wp2_with fail
    refine (vs_raw w0 w6 b _ 0 A ys.length c ys K6.out (by have := HL4.out; omega) hn H.out).mono ?_
    rintro e w7 ⟨rfl, h7⟩
    rw [E5.out] at h7
    have K7 := Lib.hid h7
    clear h7 k4 K6
    go_wp2_with fail
    refine (vs_out w0 w7 b _ 0 K7.out (by have := HB.out; omega)).mono ?_
    rintro e w8 ⟨A8, c8, rfl, h8⟩
    have e0 : outs zs 0 = zs := by simp [outs]
    rw [e0] at h8 ⊢
    clear e0
    have K8 := Lib.hid h8
    clear h8 K7
    go_wp2_with fail
    refine (qsum_any w8 A8 zs.length c8 zs K8.out.1.reads (by have := HB.out; omega)).mono ?_
    rintro e w9 ⟨A9, c9, rfl, h9⟩
    have K9 := Lib.hid h9
    clear h9
    go_wp2_with (at_builtin; refine wpList_app rfl _ _ rfl rfl (K8.out.1.chg K9.out.2.2 (by simp)) rfl rfl (sumB_len zs ▸ K9.out.1.reads) (by have := HB.out; omega) ?_; intro A' c' w1 own1 hg1 hA1)
    go_ret2
    exact ⟨A', c', by rw [List.length_append, sumB_len]; rfl, (app_fresh0 own1 K8.out.2.1 (K8.out.2.2.trans K9.out.2.2) hg1 hA1).since C0.out⟩
  · rw [if_neg hf, chkP_odd hf]
    have hc := qcheck_any w0 f t m a A ys.length c hn
    rw [chkP_odd hf] at hc
    have HC := Lib.hid hc
    clear hf hc
    go_enter Try.func12, Try.ntmps12
    go_wp2_with fail
    rw [← W0.out]
    refine HC.out.mono ?_
    rintro e w1 ⟨rfl, c1⟩
    have C1 := Lib.hid (C0.out.trans c1)
    clear c1
    go_wp2
    go_ret2
    exact ⟨none, 0, rfl, Fresh.none_ C1.out⟩
end Go.Proofs.Ytelbahfmkpncaaa
