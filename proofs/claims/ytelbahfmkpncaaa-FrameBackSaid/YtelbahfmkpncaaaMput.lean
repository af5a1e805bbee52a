/- Messages: their bytes, by the program and by the document. -/
import Derived.Test.YtelbahfmkpncaaaMcheck
import Derived.Test.YtelbahfmkpncaaaVsince
namespace Go.Proofs.Ytelbahfmkpncaaa
open Go.RowKit
set_option linter.unusedSimpArgs false
set_option linter.unusedVariables false


/-- A message's bytes. -/
def mB (k i s a : Int) (ys : List UInt8) : List UInt8 := if k = 1 then enc k.toNat ++ enc i.toNat ++ enc s.toNat ++ enc a.toNat ++ enc ys.length ++ ys else enc k.toNat ++ enc i.toNat
def mO (k i s a : Int) (ys : List UInt8) : List UInt8 := if FineM k i s a ys.length then mB k i s a ys else []
theorem inN_of {x : Int} (h0 : 0 ≤ x) (h1 : x ≤ 1099511627776) : inN x := ⟨h0, h1⟩

set_option maxHeartbeats 8000000 in
theorem mputm_any (w : World) (k i s a : Int) (A : Option Addr) (n c : Nat) (ys : List UInt8) (h : Bs w A n ys) (hn : n ≤ 140737488351232) :
    Calls Try.prog 22 #[.agg #[.int .i64 k, .int .i64 i, .int .i64 s, .int .i64 a, .slice A n c]] w fun e w' => ∃ A' c', e = .returned (.tuple #[.slice A' (mO k i s a ys).length c', .int .i64 (chkM k i s a n)]) ∧ Fresh w w' A' c' (mO k i s a ys) := by
  have hl := h.len
  subst hl
  obtain ⟨w0, hw0, c0, b0⟩ := news1 w (.cells #[.int .i64 k, .int .i64 i, .int .i64 s, .int .i64 a, .slice A ys.length c] 41)
  have W0 := Lib.hid hw0
  have C0 := Lib.hid c0
  have B0 := Lib.hid b0
  have H := Lib.hid (h.chg c0 (by simp))
  have HC := Lib.hid (mcheckm_any w0 k i s a A ys.length c hn)
  clear hw0 c0 b0 h
  unfold mO
  by_cases hf : FineM k i s a ys.length
  · rw [if_pos hf]
    rw [chkM_fine hf] at HC ⊢
    by_cases hk : k = 1
    · unfold mB
      rw [if_pos hk]
      subst hk
      have hb : inN (1 : Int) ∧ inN i ∧ inN s ∧ inN a := by
        unfold FineM PartP at hf; unfold inN; omega
      have hy : ys.length ≤ 400 := by unfold FineM PartP at hf; omega
      have HB := Lib.hid hb
      clear hb hf
      have le0 := enc_le (x := (1 : Int)) HB.out.1
      have le1 := enc_le (x := i) HB.out.2.1
      have le2 := enc_le (x := s) HB.out.2.2.1
      have le3 := enc_le (x := a) HB.out.2.2.2
      have hlen : True := trivial
      have e0 := wNum_ok (xs := []) (x := (1 : Int)) HB.out.1 (by (try simp only [List.length_append, List.length_nil]); omega)
      rw [List.nil_append] at e0
      have e1 := wNum_ok (xs := enc (1 : Int).toNat) (x := i) HB.out.2.1 (by (try simp only [List.length_append, List.length_nil]); omega)
      have e2 := wNum_ok (xs := enc (1 : Int).toNat ++ enc i.toNat) (x := s) HB.out.2.2.1 (by (try simp only [List.length_append, List.length_nil]); omega)
      have e3 := wNum_ok (xs := enc (1 : Int).toNat ++ enc i.toNat ++ enc s.toNat) (x := a) HB.out.2.2.2 (by (try simp only [List.length_append, List.length_nil]); omega)
      have e4 := wRaw_ok (xs := enc (1 : Int).toNat ++ enc i.toNat ++ enc s.toNat ++ enc a.toNat) (ys := ys) (by simp only [List.length_append]; omega) (by omega)
      have E0 := Lib.hid e0
      have E1 := Lib.hid e1
      have E2 := Lib.hid e2
      have E3 := Lib.hid e3
      have E4 := Lib.hid e4
      have hlens : (enc (1 : Int).toNat).length ≤ 1000 ∧ (enc (1 : Int).toNat ++ enc i.toNat).length ≤ 1000 ∧ (enc (1 : Int).toNat ++ enc i.toNat ++ enc s.toNat).length ≤ 1000 ∧ (enc (1 : Int).toNat ++ enc i.toNat ++ enc s.toNat ++ enc a.toNat).length ≤ 1000 := by
        try simp only [List.length_append]
        omega
      have HLs := Lib.hid hlens
      have hfin : (enc (1 : Int).toNat ++ enc i.toNat ++ enc s.toNat ++ enc a.toNat ++ enc ys.length ++ ys).length ≤ 1000 := by have := nb_le ys.length (by omega); rw [List.length_append, List.length_append, enc_len]; simp only [List.length_append]; omega
      have HFin := Lib.hid hfin
      clear hfin
      clear hlen hlens e0 e1 e2 e3 e4 le0 le1 le2 le3
      have hzz : (enc (1 : Int).toNat ++ enc i.toNat ++ enc s.toNat ++ enc a.toNat ++ enc ys.length ++ ys).length ≤ 1000 := HFin.out
      have HZZ := Lib.hid hzz
      clear hzz
      generalize enc (1 : Int).toNat ++ enc i.toNat ++ enc s.toNat ++ enc a.toNat ++ enc ys.length ++ ys = zs at *
      go_enter Try.func22, Try.ntmps22
      go_upto_region 1 with fail
      rw [← W0.out]
      generalize w.heap.size = s0 at *
      have z0 := cell_of B0.out 0
      have z1 := cell_of B0.out 1
      have z2 := cell_of B0.out 2
      have z3 := cell_of B0.out 3
      have z4 := cell_of B0.out 4
      simp only [List.getElem?_toArray, List.getElem?_cons_succ, List.getElem?_cons_zero] at z0 z1 z2 z3 z4
      go_wp2_with fail
      clear z0 z1 z2 z3 z4
      refine HC.out.mono ?_
      rintro e w1 ⟨rfl, c1⟩
      have C1 := Lib.hid c1
      clear c1
      go_wp2_with fail
      refine (ws_new w0 w1 C1.out).mono ?_
      rintro e v0 ⟨b, rfl, h0⟩
      have K := Lib.hid h0
      clear h0
      have b0_ := K.out.chg.at_ B0.out (by simp)
      have z0 := cell_of b0_ 0
      simp only [List.getElem?_toArray, List.getElem?_cons_succ, List.getElem?_cons_zero] at z0
      go_wp2_with fail
      clear z0 b0_
      refine (ws_num w0 v0 b [] 0 (1 : Int) K.out (by simp)).mono ?_
      rintro e v1 ⟨rfl, h1⟩
      rw [E0.out] at h1
      replace K := Lib.hid h1
      clear h1
      have b1_ := K.out.chg.at_ B0.out (by simp)
      have z0 := cell_of b1_ 0
      have z1 := cell_of b1_ 1
      simp only [List.getElem?_toArray, List.getElem?_cons_succ, List.getElem?_cons_zero] at z0 z1
      go_wp2_with fail
      clear z0 z1 b1_
      refine (ws_num w0 v1 b _ 0 i K.out (by have := HLs.out; omega)).mono ?_
      rintro e v2 ⟨rfl, h1⟩
      rw [E1.out] at h1
      replace K := Lib.hid h1
      clear h1
      have b2_ := K.out.chg.at_ B0.out (by simp)
      have z0 := cell_of b2_ 0
      have z2 := cell_of b2_ 2
      simp only [List.getElem?_toArray, List.getElem?_cons_succ, List.getElem?_cons_zero] at z0 z2
      go_wp2_with fail
      clear z0 z2 b2_
      refine (ws_num w0 v2 b _ 0 s K.out (by have := HLs.out; omega)).mono ?_
      rintro e v3 ⟨rfl, h1⟩
      rw [E2.out] at h1
      replace K := Lib.hid h1
      clear h1
      have b3_ := K.out.chg.at_ B0.out (by simp)
      have z3 := cell_of b3_ 3
      simp only [List.getElem?_toArray, List.getElem?_cons_succ, List.getElem?_cons_zero] at z3
      go_wp2_with fail
      clear z3 b3_
      refine (ws_num w0 v3 b _ 0 a K.out (by have := HLs.out; omega)).mono ?_
      rintro e v4 ⟨rfl, h1⟩
      rw [E3.out] at h1
      replace K := Lib.hid h1
      clear h1
      have b4_ := K.out.chg.at_ B0.out (by simp)
      have z4 := cell_of b4_ 4
      simp only [List.getElem?_toArray, List.getElem?_cons_succ, List.getElem?_cons_zero] at z4
      go_wp2_with fail
      clear z4 b4_
      refine (ws_raw w0 v4 b _ 0 A ys.length c ys K.out (by have := HLs.out; omega) hn H.out).mono ?_
      rintro e v5 ⟨rfl, h1⟩
      rw [E4.out] at h1
      replace K := Lib.hid h1
      clear h1
      go_wp2_with fail
      refine (ws_out w0 v5 b _ 0 K.out (by have := HZZ.out; omega)).mono ?_
      rintro e v9 ⟨A8, c8, rfl, h8⟩
      have e0 : ∀ zs : List UInt8, outs zs 0 = zs := fun zs => by simp [outs]
      rw [e0] at h8
      rw [e0]
      have K9 := Lib.hid (h8.since C0.out)
      clear h8 K e0
      go_wp2
      go_ret2
      exact ⟨A8, c8, rfl, K9.out⟩
    · unfold mB
      rw [if_neg hk]
      have hb : inN k ∧ inN i := by
        unfold FineM PartP at hf; unfold inN; omega
      have hkb : (k == 1) = false := by simpa using hk
      have HB := Lib.hid hb
      clear hb hf
      have le0 := enc_le (x := k) HB.out.1
      have le1 := enc_le (x := i) HB.out.2
      have hlen : True := trivial
      have e0 := wNum_ok (xs := []) (x := k) HB.out.1 (by (try simp only [List.length_append, List.length_nil]); omega)
      rw [List.nil_append] at e0
      have e1 := wNum_ok (xs := enc k.toNat) (x := i) HB.out.2 (by (try simp only [List.length_append, List.length_nil]); omega)
      have E0 := Lib.hid e0
      have E1 := Lib.hid e1
      have hlens : (enc k.toNat).length ≤ 1000 ∧ (enc k.toNat ++ enc i.toNat).length ≤ 1000 := by
        try simp only [List.length_append]
        omega
      have HLs := Lib.hid hlens
      clear hlen hlens e0 e1 le0 le1
      have hzz : (enc k.toNat ++ enc i.toNat).length ≤ 1000 := HLs.out.2
      have HZZ := Lib.hid hzz
      clear hzz
      generalize enc k.toNat ++ enc i.toNat = zs at *
      go_enter Try.func22, Try.ntmps22
      go_upto_region 1 with fail
      rw [← W0.out]
      generalize w.heap.size = s0 at *
      have z0 := cell_of B0.out 0
      have z1 := cell_of B0.out 1
      have z2 := cell_of B0.out 2
      have z3 := cell_of B0.out 3
      have z4 := cell_of B0.out 4
      simp only [List.getElem?_toArray, List.getElem?_cons_succ, List.getElem?_cons_zero] at z0 z1 z2 z3 z4
      go_wp2_with fail
      clear z0 z1 z2 z3 z4
      refine HC.out.mono ?_
      rintro e w1 ⟨rfl, c1⟩
      have C1 := Lib.hid c1
      clear c1
      go_wp2_with fail
      refine (ws_new w0 w1 C1.out).mono ?_
      rintro e v0 ⟨b, rfl, h0⟩
      have K := Lib.hid h0
      clear h0
      have b0_ := K.out.chg.at_ B0.out (by simp)
      have z0 := cell_of b0_ 0
      simp only [List.getElem?_toArray, List.getElem?_cons_succ, List.getElem?_cons_zero] at z0
      go_wp2_with fail
      clear z0 b0_
      refine (ws_num w0 v0 b [] 0 k K.out (by simp)).mono ?_
      rintro e v1 ⟨rfl, h1⟩
      rw [E0.out] at h1
      replace K := Lib.hid h1
      clear h1
      have b1_ := K.out.chg.at_ B0.out (by simp)
      have z0 := cell_of b1_ 0
      have z1 := cell_of b1_ 1
      simp only [List.getElem?_toArray, List.getElem?_cons_succ, List.getElem?_cons_zero] at z0 z1
      go_wp2_with fail
      clear z0 z1 b1_
      refine (ws_num w0 v1 b _ 0 i K.out (by have := HLs.out; omega)).mono ?_
      rintro e v2 ⟨rfl, h1⟩
      rw [E1.out] at h1
      replace K := Lib.hid h1
      clear h1
      have b9_ := K.out.chg.at_ B0.out (by simp)
      have z0 := cell_of b9_ 0
      simp only [List.getElem?_toArray, List.getElem?_cons_succ, List.getElem?_cons_zero] at z0
      go_wp2_with fail
      clear z0 b9_
      refine (ws_out w0 v2 b _ 0 K.out (by have := HZZ.out; omega)).mono ?_
      rintro e v9 ⟨A8, c8, rfl, h8⟩
      have e0 : ∀ zs : List UInt8, outs zs 0 = zs := fun zs => by simp [outs]
      rw [e0] at h8
      rw [e0]
      have K9 := Lib.hid (h8.since C0.out)
      clear h8 K e0
      go_wp2
      go_ret2
      exact ⟨A8, c8, rfl, K9.out⟩
  · rw [if_neg hf]
    rw [chkM_odd hf] at HC ⊢
    clear hf
    go_enter Try.func22, Try.ntmps22
    go_upto_region 1 with fail
    rw [← W0.out]
    generalize w.heap.size = s0 at *
    have z0 := cell_of B0.out 0
    have z1 := cell_of B0.out 1
    have z2 := cell_of B0.out 2
    have z3 := cell_of B0.out 3
    have z4 := cell_of B0.out 4
    simp only [List.getElem?_toArray, List.getElem?_cons_succ, List.getElem?_cons_zero] at z0 z1 z2 z3 z4
    go_wp2_with fail
    clear z0 z1 z2 z3 z4
    refine HC.out.mono ?_
    rintro e w1 ⟨rfl, c1⟩
    have C1 := Lib.hid c1
    clear c1
    go_wp2
    go_ret2
    exact ⟨none, 0, rfl, Fresh.none_ (C0.out.trans C1.out)⟩

set_option maxHeartbeats 8000000 in
theorem nputm_any (w : World) (k i s a : Int) (A : Option Addr) (n c : Nat) (ys : List UInt8) (h : Bs w A n ys) (hn : n ≤ 140737488351232) :
    Calls Try.prog 23 #[.agg #[.int .i64 k, .int .i64 i, .int .i64 s, .int .i64 a, .slice A n c]] w fun e w' => ∃ A' c', e = .returned (.tuple #[.slice A' (mO k i s a ys).length c', .int .i64 (chkM k i s a n)]) ∧ Fresh w w' A' c' (mO k i s a ys) := by
  have hl := h.len
  subst hl
  obtain ⟨w0, hw0, c0, b0⟩ := news1 w (.cells #[.int .i64 k, .int .i64 i, .int .i64 s, .int .i64 a, .slice A ys.length c] 41)
  have W0 := Lib.hid hw0
  have C0 := Lib.hid c0
  have B0 := Lib.hid b0
  have H := Lib.hid (h.chg c0 (by simp))
  have HC := Lib.hid (ncheckm_any w0 k i s a A ys.length c hn)
  clear hw0 c0 b0 h
  unfold mO
  by_cases hf : FineM k i s a ys.length
  · rw [if_pos hf]
    rw [chkM_fine hf] at HC ⊢
    by_cases hk : k = 1
    · unfold mB
      rw [if_pos hk]
      subst hk
      have hb : inN (1 : Int) ∧ inN i ∧ inN s ∧ inN a := by
        unfold FineM PartP at hf; unfold inN; omega
      have hy : ys.length ≤ 400 := by unfold FineM PartP at hf; omega
      have HB := Lib.hid hb
      clear hb hf
      have le0 := enc_le (x := (1 : Int)) HB.out.1
      have le1 := enc_le (x := i) HB.out.2.1
      have le2 := enc_le (x := s) HB.out.2.2.1
      have le3 := enc_le (x := a) HB.out.2.2.2
      have hlen : True := trivial
      have e0 := wNum_ok (xs := []) (x := (1 : Int)) HB.out.1 (by (try simp only [List.length_append, List.length_nil]); omega)
      rw [List.nil_append] at e0
      have e1 := wNum_ok (xs := enc (1 : Int).toNat) (x := i) HB.out.2.1 (by (try simp only [List.length_append, List.length_nil]); omega)
      have e2 := wNum_ok (xs := enc (1 : Int).toNat ++ enc i.toNat) (x := s) HB.out.2.2.1 (by (try simp only [List.length_append, List.length_nil]); omega)
      have e3 := wNum_ok (xs := enc (1 : Int).toNat ++ enc i.toNat ++ enc s.toNat) (x := a) HB.out.2.2.2 (by (try simp only [List.length_append, List.length_nil]); omega)
      have e4 := wRaw_ok (xs := enc (1 : Int).toNat ++ enc i.toNat ++ enc s.toNat ++ enc a.toNat) (ys := ys) (by simp only [List.length_append]; omega) (by omega)
      have E0 := Lib.hid e0
      have E1 := Lib.hid e1
      have E2 := Lib.hid e2
      have E3 := Lib.hid e3
      have E4 := Lib.hid e4
      have hlens : (enc (1 : Int).toNat).length ≤ 1000 ∧ (enc (1 : Int).toNat ++ enc i.toNat).length ≤ 1000 ∧ (enc (1 : Int).toNat ++ enc i.toNat ++ enc s.toNat).length ≤ 1000 ∧ (enc (1 : Int).toNat ++ enc i.toNat ++ enc s.toNat ++ enc a.toNat).length ≤ 1000 := by
        try simp only [List.length_append]
        omega
      have HLs := Lib.hid hlens
      have hfin : (enc (1 : Int).toNat ++ enc i.toNat ++ enc s.toNat ++ enc a.toNat ++ enc ys.length ++ ys).length ≤ 1000 := by have := nb_le ys.length (by omega); rw [List.length_append, List.length_append, enc_len]; simp only [List.length_append]; omega
      have HFin := Lib.hid hfin
      clear hfin
      clear hlen hlens e0 e1 e2 e3 e4 le0 le1 le2 le3
      have hzz : (enc (1 : Int).toNat ++ enc i.toNat ++ enc s.toNat ++ enc a.toNat ++ enc ys.length ++ ys).length ≤ 1000 := HFin.out
      have HZZ := Lib.hid hzz
      clear hzz
      generalize enc (1 : Int).toNat ++ enc i.toNat ++ enc s.toNat ++ enc a.toNat ++ enc ys.length ++ ys = zs at *
      go_enter Try.func23, Try.ntmps23
      go_upto_region 1 with fail
      rw [← W0.out]
      generalize w.heap.size = s0 at *
      have z0 := cell_of B0.out 0
      have z1 := cell_of B0.out 1
      have z2 := cell_of B0.out 2
      have z3 := cell_of B0.out 3
      have z4 := cell_of B0.out 4
      simp only [List.getElem?_toArray, List.getElem?_cons_succ, List.getElem?_cons_zero] at z0 z1 z2 z3 z4
      go_wp2_with fail
      clear z0 z1 z2 z3 z4
      refine HC.out.mono ?_
      rintro e w1 ⟨rfl, c1⟩
      have C1 := Lib.hid c1
      clear c1
      have K := Lib.hid (vs_new w0 w1 C1.out)
      have b0_ := (C1.out.alloc (.cells #[.slice none 0 0, .int .i64 0] 60)).at_ B0.out (by simp)
      have z0 := cell_of b0_ 0
      simp only [List.getElem?_toArray, List.getElem?_cons_succ, List.getElem?_cons_zero] at z0
      go_wp2_with fail
      generalize w1.alloc (.cells #[.slice none 0 0, .int .i64 0] 60) = v0 at *
      generalize w1.heap.size = b at *
      clear z0 b0_
      refine (vs_num w0 v0 b [] 0 (1 : Int) K.out (by simp) (by have := HB.out.1; unfold inN at this; omega) (by have := HB.out.1; unfold inN at this; omega)).mono ?_
      rintro e v1 ⟨rfl, h1⟩
      rw [E0.out] at h1
      replace K := Lib.hid h1
      clear h1
      have b1_ := K.out.chg.at_ B0.out (by simp)
      have z0 := cell_of b1_ 0
      have z1 := cell_of b1_ 1
      simp only [List.getElem?_toArray, List.getElem?_cons_succ, List.getElem?_cons_zero] at z0 z1
      go_wp2_with fail
      clear z0 z1 b1_
      refine (vs_num w0 v1 b _ 0 i K.out (by have := HLs.out; omega) (by have := HB.out.2.1; unfold inN at this; omega) (by have := HB.out.2.1; unfold inN at this; omega)).mono ?_
      rintro e v2 ⟨rfl, h1⟩
      rw [E1.out] at h1
      replace K := Lib.hid h1
      clear h1
      have b2_ := K.out.chg.at_ B0.out (by simp)
      have z0 := cell_of b2_ 0
      have z2 := cell_of b2_ 2
      simp only [List.getElem?_toArray, List.getElem?_cons_succ, List.getElem?_cons_zero] at z0 z2
      go_wp2_with fail
      clear z0 z2 b2_
      refine (vs_num w0 v2 b _ 0 s K.out (by have := HLs.out; omega) (by have := HB.out.2.2.1; unfold inN at this; omega) (by have := HB.out.2.2.1; unfold inN at this; omega)).mono ?_
      rintro e v3 ⟨rfl, h1⟩
      rw [E2.out] at h1
      replace K := Lib.hid h1
      clear h1
      have b3_ := K.out.chg.at_ B0.out (by simp)
      have z3 := cell_of b3_ 3
      simp only [List.getElem?_toArray, List.getElem?_cons_succ, List.getElem?_cons_zero] at z3
      go_wp2_with fail
      clear z3 b3_
      refine (vs_num w0 v3 b _ 0 a K.out (by have := HLs.out; omega) (by have := HB.out.2.2.2; unfold inN at this; omega) (by have := HB.out.2.2.2; unfold inN at this; omega)).mono ?_
      rintro e v4 ⟨rfl, h1⟩
      rw [E3.out] at h1
      replace K := Lib.hid h1
      clear h1
      have b4_ := K.out.chg.at_ B0.out (by simp)
      have z4 := cell_of b4_ 4
      simp only [List.getElem?_toArray, List.getElem?_cons_succ, List.getElem?_cons_zero] at z4
      go_wp2_with fail
      clear z4 b4_
      refine (vs_raw w0 v4 b _ 0 A ys.length c ys K.out (by have := HLs.out; omega) hn H.out).mono ?_
      rintro e v5 ⟨rfl, h1⟩
      rw [E4.out] at h1
      replace K := Lib.hid h1
      clear h1
      go_wp2_with fail
      refine (vs_out w0 v5 b _ 0 K.out (by have := HZZ.out; omega)).mono ?_
      rintro e v9 ⟨A8, c8, rfl, h8⟩
      have e0 : ∀ zs : List UInt8, outs zs 0 = zs := fun zs => by simp [outs]
      rw [e0] at h8
      rw [e0]
      have K9 := Lib.hid (h8.since C0.out)
      clear h8 K e0
      go_wp2
      go_ret2
      exact ⟨A8, c8, rfl, K9.out⟩
    · unfold mB
      rw [if_neg hk]
      have hb : inN k ∧ inN i := by
        unfold FineM PartP at hf; unfold inN; omega
      have hkb : (k == 1) = false := by simpa using hk
      have HB := Lib.hid hb
      clear hb hf
      have le0 := enc_le (x := k) HB.out.1
      have le1 := enc_le (x := i) HB.out.2
      have hlen : True := trivial
      have e0 := wNum_ok (xs := []) (x := k) HB.out.1 (by (try simp only [List.length_append, List.length_nil]); omega)
      rw [List.nil_append] at e0
      have e1 := wNum_ok (xs := enc k.toNat) (x := i) HB.out.2 (by (try simp only [List.length_append, List.length_nil]); omega)
      have E0 := Lib.hid e0
      have E1 := Lib.hid e1
      have hlens : (enc k.toNat).length ≤ 1000 ∧ (enc k.toNat ++ enc i.toNat).length ≤ 1000 := by
        try simp only [List.length_append]
        omega
      have HLs := Lib.hid hlens
      clear hlen hlens e0 e1 le0 le1
      have hzz : (enc k.toNat ++ enc i.toNat).length ≤ 1000 := HLs.out.2
      have HZZ := Lib.hid hzz
      clear hzz
      generalize enc k.toNat ++ enc i.toNat = zs at *
      go_enter Try.func23, Try.ntmps23
      go_upto_region 1 with fail
      rw [← W0.out]
      generalize w.heap.size = s0 at *
      have z0 := cell_of B0.out 0
      have z1 := cell_of B0.out 1
      have z2 := cell_of B0.out 2
      have z3 := cell_of B0.out 3
      have z4 := cell_of B0.out 4
      simp only [List.getElem?_toArray, List.getElem?_cons_succ, List.getElem?_cons_zero] at z0 z1 z2 z3 z4
      go_wp2_with fail
      clear z0 z1 z2 z3 z4
      refine HC.out.mono ?_
      rintro e w1 ⟨rfl, c1⟩
      have C1 := Lib.hid c1
      clear c1
      have K := Lib.hid (vs_new w0 w1 C1.out)
      have b0_ := (C1.out.alloc (.cells #[.slice none 0 0, .int .i64 0] 60)).at_ B0.out (by simp)
      have z0 := cell_of b0_ 0
      simp only [List.getElem?_toArray, List.getElem?_cons_succ, List.getElem?_cons_zero] at z0
      go_wp2_with fail
      generalize w1.alloc (.cells #[.slice none 0 0, .int .i64 0] 60) = v0 at *
      generalize w1.heap.size = b at *
      clear z0 b0_
      refine (vs_num w0 v0 b [] 0 k K.out (by simp) (by have := HB.out.1; unfold inN at this; omega) (by have := HB.out.1; unfold inN at this; omega)).mono ?_
      rintro e v1 ⟨rfl, h1⟩
      rw [E0.out] at h1
      replace K := Lib.hid h1
      clear h1
      have b1_ := K.out.chg.at_ B0.out (by simp)
      have z0 := cell_of b1_ 0
      have z1 := cell_of b1_ 1
      simp only [List.getElem?_toArray, List.getElem?_cons_succ, List.getElem?_cons_zero] at z0 z1
      go_wp2_with fail
      clear z0 z1 b1_
      refine (vs_num w0 v1 b _ 0 i K.out (by have := HLs.out; omega) (by have := HB.out.2; unfold inN at this; omega) (by have := HB.out.2; unfold inN at this; omega)).mono ?_
      rintro e v2 ⟨rfl, h1⟩
      rw [E1.out] at h1
      replace K := Lib.hid h1
      clear h1
      have b9_ := K.out.chg.at_ B0.out (by simp)
      have z0 := cell_of b9_ 0
      simp only [List.getElem?_toArray, List.getElem?_cons_succ, List.getElem?_cons_zero] at z0
      go_wp2_with fail
      clear z0 b9_
      refine (vs_out w0 v2 b _ 0 K.out (by have := HZZ.out; omega)).mono ?_
      rintro e v9 ⟨A8, c8, rfl, h8⟩
      have e0 : ∀ zs : List UInt8, outs zs 0 = zs := fun zs => by simp [outs]
      rw [e0] at h8
      rw [e0]
      have K9 := Lib.hid (h8.since C0.out)
      clear h8 K e0
      go_wp2
      go_ret2
      exact ⟨A8, c8, rfl, K9.out⟩
  · rw [if_neg hf]
    rw [chkM_odd hf] at HC ⊢
    clear hf
    go_enter Try.func23, Try.ntmps23
    go_upto_region 1 with fail
    rw [← W0.out]
    generalize w.heap.size = s0 at *
    have z0 := cell_of B0.out 0
    have z1 := cell_of B0.out 1
    have z2 := cell_of B0.out 2
    have z3 := cell_of B0.out 3
    have z4 := cell_of B0.out 4
    simp only [List.getElem?_toArray, List.getElem?_cons_succ, List.getElem?_cons_zero] at z0 z1 z2 z3 z4
    go_wp2_with fail
    clear z0 z1 z2 z3 z4
    refine HC.out.mono ?_
    rintro e w1 ⟨rfl, c1⟩
    have C1 := Lib.hid c1
    clear c1
    go_wp2
    go_ret2
    exact ⟨none, 0, rfl, Fresh.none_ (C0.out.trans C1.out)⟩
end Go.Proofs.Ytelbahfmkpncaaa
