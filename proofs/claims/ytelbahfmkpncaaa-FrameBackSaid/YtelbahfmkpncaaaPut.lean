/- Package frame: PutPacket. -/
import Derived.Test.YtelbahfmkpncaaaPk
namespace Go.Proofs.Ytelbahfmkpncaaa
open Go.RowKit
set_option linter.unusedSimpArgs false

/-- A packet's bytes ahead of the fingerprint. -/
def pkB (f t m a : Int) (ys : List UInt8) : List UInt8 := enc f.toNat ++ enc t.toNat ++ enc m.toNat ++ enc a.toNat ++ enc ys.length ++ ys
/-- A packet's bytes. -/
def pkO (f t m a : Int) (ys : List UInt8) : List UInt8 := if FineP f t m a ys.length then pkB f t m a ys ++ sumB (pkB f t m a ys) else []
theorem wNum_ok {xs : List UInt8} {x : Int} (h : inN x) (hl : xs.length ≤ 1000) : wNum xs 0 x = (xs ++ enc x.toNat, 0) := by
  unfold inN at h
  have b := nb_le x.toNat (by omega)
  unfold wNum
  rw [if_neg (by simp), if_neg (by omega), if_neg (by omega)]
theorem enc_le {x : Int} (h : inN x) : (enc x.toNat).length ≤ 9 := by
  unfold inN at h
  have b := nb_le x.toNat (by omega)
  rw [enc_len]; omega
theorem wRaw_ok {xs ys : List UInt8} (hl : xs.length ≤ 1000) (hy : ys.length ≤ 1000) : wRaw xs 0 ys = (xs ++ enc ys.length ++ ys, 0) := by
  have b := nb_le ys.length (by omega)
  unfold wRaw
  rw [if_neg (by simp), if_neg (by omega)]

theorem ws_num_i (w w1 : World) (b : Nat) (xs : List UInt8) (e x : Int) (h : Ws w w1 b xs e) (hlen : xs.length ≤ 1048576) {s1 : Nat} {cs : Array Value} {fr : Nat × Nat} (hb : w1.heap[s1]? = some (.cells cs 3 fr)) :
    Calls Try.prog 33 #[.pointer (some ⟨b, 0, none⟩), .int .i64 x] w1 fun r w' => r = .returned (.tuple #[]) ∧ Ws w w' b (wNum xs e x).1 (wNum xs e x).2 ∧ w'.heap[s1]? = some (.cells cs 3 fr) := by
  obtain ⟨g, h1, h2, h3, h4⟩ := h
  have n1 : s1 ≠ b := by
    rintro rfl
    obtain ⟨A, c, k1, _, _⟩ := h1
    rw [k1] at hb
    simp at hb
  have n2 : s1 ≠ g := by
    obtain ⟨A, c, k1, k2, k3⟩ := h1
    rcases k3 with ⟨_, rfl⟩ | rfl
    · exact n1
    · exact fun e => k2.ne hb (by decide) _ rfl e.symm
  exact (wnum_any w1 b g xs e x h1 hlen).mono fun _ _ ⟨q1, q2⟩ => ⟨q1, ws_between h2 h3 h4 q2, by
    obtain ⟨_, _, q3, _⟩ := q2
    exact q3.at_ hb (by simp; exact ⟨n1, n2⟩)⟩

theorem app_fresh0 {w wr w1 : World} {A A' : Option Addr} {c' : Nat} {zs : List UInt8} (own1 : OwnB w1 A' c' zs) (f2 : ∀ a, A = some a → w.heap.size ≤ a.block) (hc : Chg [] w wr) (hg1 : wr.grownBy w1 (A.map (·.block)))
    (hA1 : A' = A ∨ A' = some ⟨wr.heap.size, 0, none⟩) : Fresh w w1 A' c' zs := by
  have hs := hc.size
  refine ⟨own1, ?_, hc.grown hg1 (fun k hk => ?_)⟩
  · rintro a rfl
    rcases hA1 with h | h
    · exact f2 a h.symm
    · cases h; exact hs
  · cases A with
    | none => cases hk
    | some a => simp at hk; subst hk; exact .inr (f2 a rfl)

set_option maxHeartbeats 4000000 in
theorem pput_any (w : World) (f t m a : Int) (A : Option Addr) (n c : Nat) (ys : List UInt8) (h : Bs w A n ys) (hn : n ≤ 140737488351232) :
    Calls Try.prog 11 #[.agg #[.int .i64 f, .int .i64 t, .int .i64 m, .int .i64 a, .slice A n c]] w fun e w' => ∃ A' c', e = .returned (.tuple #[.slice A' (pkO f t m a ys).length c', .int .i64 (chkP f t m a n)]) ∧ Fresh w w' A' c' (pkO f t m a ys) := by
  have hl := h.len
  subst hl
  obtain ⟨w0, hw0⟩ : ∃ w0 : World, w0 = w.alloc (.cells #[.int .i64 f, .int .i64 t, .int .i64 m, .int .i64 a, .slice A ys.length c] 24) := ⟨_, rfl⟩
  have c0 : Chg [] w w0 := hw0 ▸ (Chg.refl [] w).alloc _
  have b0 : w0.heap[w.heap.size]? = some (.cells #[.int .i64 f, .int .i64 t, .int .i64 m, .int .i64 a, .slice A ys.length c] 24 (0, 0)) := hw0 ▸ heap_alloc_new w _
  have k0 := cell_of b0 0
  have k1 := cell_of b0 1
  have k2 := cell_of b0 2
  have k3 := cell_of b0 3
  have k4 := cell_of b0 4
  simp only [List.getElem?_toArray, List.getElem?_cons_succ, List.getElem?_cons_zero] at k0 k1 k2 k3 k4
  have H := Lib.hid (h.chg c0 (by simp))
  have W0 := Lib.hid hw0
  have C0 := Lib.hid c0
  clear hw0 c0 b0 h
  unfold pkO
  by_cases hf : FineP f t m a ys.length
  · rw [if_pos hf, chkP_fine hf]
    have hc := pcheckp_any w0 f t m a A ys.length c hn
    rw [chkP_fine hf] at hc
    have HC := Lib.hid hc
    have FF := Lib.hid hf
    have hl4 : (enc f.toNat ++ enc t.toNat ++ enc m.toNat ++ enc a.toNat).length ≤ 36 := by
      have z0 := enc_le (x := f) ⟨by have := FF.out.1; omega, FF.out.2.1⟩
      have z1 := enc_le FF.out.2.2.1
      have z2 := enc_le FF.out.2.2.2.1
      have z3 := enc_le FF.out.2.2.2.2.1
      try simp only [List.length_append]
      omega
    have hy : ys.length ≤ 400 := FF.out.2.2.2.2.2.1
    have e5 := wRaw_ok (xs := enc f.toNat ++ enc t.toNat ++ enc m.toNat ++ enc a.toNat) (ys := ys) (by omega) (by omega)
    change _ = (pkB f t m a ys, 0) at e5
    have hb : (pkB f t m a ys).length ≤ 1000 := by
      have := nb_le ys.length (by omega)
      unfold pkB
      rw [List.length_append, List.length_append, enc_len]
      omega
    have E5 := Lib.hid e5
    have HB := Lib.hid hb
    have HL4 := Lib.hid hl4
    clear hl4 hy e5 hb
    generalize pkB f t m a ys = zs at *
    clear hf hc
    go_enter Try.func11, Try.ntmps11
    go_wp2_with fail
    rw [← W0.out]
    refine HC.out.mono ?_
    rintro e w1 ⟨rfl, c1⟩
    have C1 := Lib.hid c1
    clear c1
    have j0 := Lib.hid k0
    have j1 := Lib.hid k1
    have j2 := Lib.hid k2
    have j3 := Lib.hid k3
    have j4 := Lib.hid k4
    clear k0 k1 k2 k3 k4
    generalize w.heap.size = s at *
    go_wp2_with fail
    refine (ws_new w0 w1 C1.out).mono ?_
    rintro e w2 ⟨b, rfl, h2⟩
    have k0 := h2.chg.cell j0.out (by simp)
    have k1 := h2.chg.cell j1.out (by simp)
    have k2 := h2.chg.cell j2.out (by simp)
    have k3 := h2.chg.cell j3.out (by simp)
    have h2' := h2.past ((Chg.refl [] w2).alloc (.cells #[.int .i64 f, .int .i64 t, .int .i64 m, .int .i64 a] 3))
    have q := heap_alloc_new w2 (.cells #[.int .i64 f, .int .i64 t, .int .i64 m, .int .i64 a] 3)
    have K2 := Lib.hid h2'
    have Q2 := Lib.hid q
    clear h2 h2' q C1
    go_wp2_with fail
    clear k0 k1 k2 k3
    generalize w2.alloc (.cells #[.int .i64 f, .int .i64 t, .int .i64 m, .int .i64 a] 3) = w2' at *
    generalize w2.heap.size = s1 at *
    have l0 := cell_of Q2.out 0
    simp only [List.getElem?_toArray, List.getElem?_cons_succ, List.getElem?_cons_zero] at l0
    refine wp_loop_rounds 5 ?_
    rw [rounds_succ]
    go_wp2_with fail
    have e1 := wNum_ok (xs := []) (x := f) ⟨by have := FF.out.1; omega, FF.out.2.1⟩ (by simp)
    rw [List.nil_append] at e1
    have E1 := Lib.hid e1
    clear e1
    refine (ws_num_i w0 w2' b [] 0 f K2.out (by simp) Q2.out).mono ?_
    rintro e w3 ⟨rfl, h3, q3⟩
    rw [E1.out] at h3
    have K3 := Lib.hid h3
    have Q3 := Lib.hid q3
    clear h3 q3 l0 K2 Q2
    have l1 := cell_of Q3.out 1
    simp only [List.getElem?_toArray, List.getElem?_cons_succ, List.getElem?_cons_zero] at l1
    have hl1 : (enc f.toNat).length ≤ 1000 := by
      have z0 := enc_le (x := f) ⟨by have := FF.out.1; omega, FF.out.2.1⟩
      have z1 := enc_le FF.out.2.2.1
      have z2 := enc_le FF.out.2.2.2.1
      have z3 := enc_le FF.out.2.2.2.2.1
      try simp only [List.length_append]
      omega
    have HL1 := Lib.hid hl1
    have E2 := Lib.hid (wNum_ok (x := t) FF.out.2.2.1 hl1)
    clear hl1
    go_wp2_with fail
    rw [rounds_succ]
    go_wp2_with fail
    refine (ws_num_i w0 w3 b (enc f.toNat) 0 t K3.out (by have := HL1.out; omega) Q3.out).mono ?_
    rintro e w4 ⟨rfl, h4, q4⟩
    rw [E2.out] at h4
    have K4 := Lib.hid h4
    have Q4 := Lib.hid q4
    clear h4 q4 l1 K3 Q3
    have l2 := cell_of Q4.out 2
    simp only [List.getElem?_toArray, List.getElem?_cons_succ, List.getElem?_cons_zero] at l2
    have hl2 : (enc f.toNat ++ enc t.toNat).length ≤ 1000 := by
      have z0 := enc_le (x := f) ⟨by have := FF.out.1; omega, FF.out.2.1⟩
      have z1 := enc_le FF.out.2.2.1
      have z2 := enc_le FF.out.2.2.2.1
      have z3 := enc_le FF.out.2.2.2.2.1
      try simp only [List.length_append]
      omega
    have HL2 := Lib.hid hl2
    have E3 := Lib.hid (wNum_ok (x := m) FF.out.2.2.2.1 hl2)
    clear hl2
    go_wp2_with fail
    rw [rounds_succ]
    go_wp2_with fail
    refine (ws_num_i w0 w4 b (enc f.toNat ++ enc t.toNat) 0 m K4.out (by have := HL2.out; omega) Q4.out).mono ?_
    rintro e w5 ⟨rfl, h5, q5⟩
    rw [E3.out] at h5
    have K5 := Lib.hid h5
    have Q5 := Lib.hid q5
    clear h5 q5 l2 K4 Q4
    have l3 := cell_of Q5.out 3
    simp only [List.getElem?_toArray, List.getElem?_cons_succ, List.getElem?_cons_zero] at l3
    have hl3 : (enc f.toNat ++ enc t.toNat ++ enc m.toNat).length ≤ 1000 := by
      have z0 := enc_le (x := f) ⟨by have := FF.out.1; omega, FF.out.2.1⟩
      have z1 := enc_le FF.out.2.2.1
      have z2 := enc_le FF.out.2.2.2.1
      have z3 := enc_le FF.out.2.2.2.2.1
      try simp only [List.length_append]
      omega
    have HL3 := Lib.hid hl3
    have E4 := Lib.hid (wNum_ok (x := a) FF.out.2.2.2.2.1 hl3)
    clear hl3
    go_wp2_with fail
    rw [rounds_succ]
    go_wp2_with fail
    refine (ws_num_i w0 w5 b (enc f.toNat ++ enc t.toNat ++ enc m.toNat) 0 a K5.out (by have := HL3.out; omega) Q5.out).mono ?_
    rintro e w6 ⟨rfl, h6, q6⟩
    rw [E4.out] at h6
    have K6 := Lib.hid h6
    have Q6 := Lib.hid q6
    clear h6 q6 l3 K5 Q5
    have k4 := K6.out.chg.cell j4.out (by simp)
    go_wp2_with fail
    rw [rounds_succ]
    go_wp2_with fail
    refine (ws_raw w0 w6 b _ 0 A ys.length c ys K6.out (by have := HL4.out; omega) hn H.out).mono ?_
    rintro e w7 ⟨rfl, h7⟩
    rw [E5.out] at h7
    have K7 := Lib.hid h7
    clear h7 k4 K6 Q6
    go_wp2_with fail
    refine (ws_out w0 w7 b _ 0 K7.out (by have := HB.out; omega)).mono ?_
    rintro e w8 ⟨A8, c8, rfl, h8⟩
    have e0 : outs zs 0 = zs := by simp [outs]
    rw [e0] at h8 ⊢
    clear e0
    have K8 := Lib.hid h8
    clear h8 K7
    go_wp2_with fail
    refine (pcheck_any w8 A8 zs.length c8 zs K8.out.1.reads (by have := HB.out; omega)).mono ?_
    rintro e w9 ⟨A9, c9, rfl, h9⟩
    have K9 := Lib.hid h9
    clear h9
    go_wp2_with (at_builtin; refine wpList_app rfl _ _ rfl rfl (K8.out.1.chg K9.out.2.2 (by simp)) rfl rfl (sumB_len zs ▸ K9.out.1.reads) (by have := HB.out; omega) ?_; intro A' c' w1 own1 hg1 hA1)
    go_ret2
    exact ⟨A', c', by rw [List.length_append, sumB_len]; rfl, (app_fresh0 own1 K8.out.2.1 (K8.out.2.2.trans K9.out.2.2) hg1 hA1).since C0.out⟩
  · rw [if_neg hf, chkP_odd hf]
    have hc := pcheckp_any w0 f t m a A ys.length c hn
    rw [chkP_odd hf] at hc
    have HC := Lib.hid hc
    clear hf hc
    go_enter Try.func11, Try.ntmps11
    go_wp2_with fail
    rw [← W0.out]
    refine HC.out.mono ?_
    rintro e w1 ⟨rfl, c1⟩
    have C1 := Lib.hid (C0.out.trans c1)
    clear c1
    go_wp2
    go_ret2
    exact ⟨none, 0, rfl, Fresh.none_ C1.out⟩
end Go.Proofs.Ytelbahfmkpncaaa
