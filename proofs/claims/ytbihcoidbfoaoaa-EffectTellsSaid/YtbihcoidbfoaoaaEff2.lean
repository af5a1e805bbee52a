/- Package effect: compare, Same, Less, Size, Bytes. -/
import Derived.Test.YtbihcoidbfoaoaaEff
import Derived.Test.YtbihcoidbfoaoaaSince
import Derived.Deep.RegionHeld3
namespace Go.Proofs.Ytbihcoidbfoaoaa
open Go.RowKit

/-- How two effects compare. -/
def cmpE (k m : Int) (xs : List UInt8) (k' m' : Int) (ys : List UInt8) : Int := or3 (cmpI k k') (cmpI m m') (Lib.compareBytes xs ys)

set_option maxHeartbeats 1000000 in
theorem ecompare_any (w : World) (k m k' m' : Int) (A B : Option Addr) (n c n' d : Nat) (xs ys : List UInt8) (h : Bs w A n xs) (h' : Bs w B n' ys) :
    Calls Try.prog 39 #[.agg #[.int .i64 k, .int .i64 m, .slice A n c], .agg #[.int .i64 k', .int .i64 m', .slice B n' d]] w fun e w' => e = .returned (.int .i64 (cmpE k m xs k' m' ys)) ∧ Chg [] w w' := by
  obtain ⟨w0, hw0⟩ : ∃ w0 : World, w0 = (w.alloc (.cells #[.int .i64 k, .int .i64 m, .slice A n c] 24)).alloc (.cells #[.int .i64 k', .int .i64 m', .slice B n' d] 24) := ⟨_, rfl⟩
  have c0 : Chg [] w w0 := hw0 ▸ ((Chg.refl [] w).alloc _).alloc _
  have b0 : w0.heap[w.heap.size]? = some (.cells #[.int .i64 k, .int .i64 m, .slice A n c] 24 (0, 0)) := hw0 ▸ ((Chg.refl [] _).alloc _).at_ (heap_alloc_new w _) (by simp)
  have b1 : w0.heap[w.heap.size + 1]? = some (.cells #[.int .i64 k', .int .i64 m', .slice B n' d] 24 (0, 0)) := hw0 ▸ heap_alloc_two w _ _
  have k0 := cell_of b0 0
  have k1 := cell_of b0 1
  have k2 := cell_of b0 2
  have k3 := cell_of b1 0
  have k4 := cell_of b1 1
  have k5 := cell_of b1 2
  simp only [List.getElem?_toArray, List.getElem?_cons_succ, List.getElem?_cons_zero] at k0 k1 k2 k3 k4 k5
  have g0 := lt_of_heap b0
  have g1 := lt_of_heap b1
  have H := Lib.hid (h.chg c0 (by simp))
  have H' := Lib.hid (h'.chg c0 (by simp))
  have W0 := Lib.hid hw0
  have C0 := Lib.hid c0
  clear hw0 c0 b0 b1 h h'
  unfold cmpE
  have hz : ∀ j, ¬ (w0.heap.size = w.heap.size) := fun _ => by omega
  generalize hr : or3 (cmpI k k') (cmpI m m') (Lib.compareBytes xs ys) = R
  have HR := Lib.hid hr
  clear hr hz
  go_enter Try.func39, Try.ntmps39
  go_wp2
  rw [← W0.out]
  have n1 := World.new_ne w0 ⟨w.heap.size, 0, none⟩ k0
  have n2 := World.new_ne w0 ⟨w.heap.size + 1, 0, none⟩ k3
  generalize w.heap.size + 1 = s1 at *
  generalize w.heap.size = s0 at *
  go_region_held3 (fun w' => w'.cell? ⟨s0, 0, none⟩ = some (.int .i64 k) ∧ w'.cell? ⟨s0, 1, none⟩ = some (.int .i64 m) ∧ w'.cell? ⟨s0, 2, none⟩ = some (.slice A n c) ∧ w'.cell? ⟨s1, 0, none⟩ = some (.int .i64 k') ∧ w'.cell? ⟨s1, 1, none⟩ = some (.int .i64 m') ∧ w'.cell? ⟨s1, 2, none⟩ = some (.slice B n' d)) (first | exact ⟨k0, k1, k2, k3, k4, k5⟩ | go_keep)
    ((first
      | (go_at_call 56; refine (cmpint_any _ _ _).mono ?_; rintro e w1 ⟨rfl, rfl⟩)
      | (go_at_call 57; refine (bcmp_any _ A B n n' c d xs ys (by first | exact H.out.chg (Chg.refl [] w0).drew (by simp) | exact H.out.chg ((Chg.refl [] w0).alloc _).drew (by simp)) (by first | exact H'.out.chg (Chg.refl [] w0).drew (by simp) | exact H'.out.chg ((Chg.refl [] w0).alloc _).drew (by simp))).mono ?_; rintro e w1 ⟨rfl, rfl⟩)))
  all_goals
    go_wp2_with fail
    refine (or3_any _ w0.heap.size (cmpI k k') (cmpI m m') (Lib.compareBytes xs ys) (show (w0.alloc _).drew.heap[_]? = _ from heap_alloc_new w0 _)).mono ?_
    rintro e w1 ⟨rfl, rfl⟩
    go_wp2
    go_ret
    exact ⟨by rw [HR.out]; rfl, (C0.out.alloc _).drew⟩

set_option maxHeartbeats 400000 in
theorem esize_any (w : World) (k m : Int) (A : Option Addr) (n c : Nat) (hn : n ≤ 140737488351232) :
    Calls Try.prog 16 #[.agg #[.int .i64 k, .int .i64 m, .slice A n c]] w fun e w' => e = .returned (.int .i64 (16 + n)) ∧ Chg [] w w' := by
  go_enter Try.func16, Try.ntmps16
  go_wp2
  go_ret
  exact ⟨rfl, (Chg.refl _ _).alloc _⟩
set_option maxHeartbeats 400000 in
theorem esame_any (w : World) (k m k' m' : Int) (A B : Option Addr) (n c n' d : Nat) (xs ys : List UInt8) (h : Bs w A n xs) (h' : Bs w B n' ys) :
    Calls Try.prog 18 #[.agg #[.int .i64 k, .int .i64 m, .slice A n c], .agg #[.int .i64 k', .int .i64 m', .slice B n' d]] w fun e w' => e = .returned (.bool (cmpE k m xs k' m' ys == 0)) ∧ Chg [] w w' := by
  have c0 := ((Chg.refl [] w).alloc (.cells #[.int .i64 k, .int .i64 m, .slice A n c] 24)).alloc (.cells #[.int .i64 k', .int .i64 m', .slice B n' d] 24)
  have C0 := Lib.hid c0
  have H := Lib.hid (h.chg c0 (by simp))
  have H' := Lib.hid (h'.chg c0 (by simp))
  clear c0 h h'
  go_enter Try.func18, Try.ntmps18
  go_wp2_with fail
  refine (ecompare_any _ k m k' m' A B n c n' d xs ys H.out H'.out).mono ?_
  rintro e w1 ⟨rfl, c1⟩
  have C1 := Lib.hid (C0.out.trans c1)
  clear c1
  go_wp2
  go_ret
  exact ⟨rfl, C1.out⟩
set_option maxHeartbeats 400000 in
theorem eless_any (w : World) (k m k' m' : Int) (A B : Option Addr) (n c n' d : Nat) (xs ys : List UInt8) (h : Bs w A n xs) (h' : Bs w B n' ys) :
    Calls Try.prog 20 #[.agg #[.int .i64 k, .int .i64 m, .slice A n c], .agg #[.int .i64 k', .int .i64 m', .slice B n' d]] w fun e w' => e = .returned (.bool (decide (cmpE k m xs k' m' ys < 0))) ∧ Chg [] w w' := by
  have c0 := ((Chg.refl [] w).alloc (.cells #[.int .i64 k, .int .i64 m, .slice A n c] 24)).alloc (.cells #[.int .i64 k', .int .i64 m', .slice B n' d] 24)
  have C0 := Lib.hid c0
  have H := Lib.hid (h.chg c0 (by simp))
  have H' := Lib.hid (h'.chg c0 (by simp))
  clear c0 h h'
  go_enter Try.func20, Try.ntmps20
  go_wp2_with fail
  refine (ecompare_any _ k m k' m' A B n c n' d xs ys H.out H'.out).mono ?_
  rintro e w1 ⟨rfl, c1⟩
  have C1 := Lib.hid (C0.out.trans c1)
  clear c1
  go_wp2
  go_ret
  exact ⟨rfl, C1.out⟩

/-- An effect's bytes. -/
def effB (k m : Int) (ys : List UInt8) : List UInt8 := enc k.toNat ++ enc m.toNat ++ enc ys.length ++ ys
/-- What Bytes tells. -/
def effO (k m : Int) (ys : List UInt8) : List UInt8 := if Fine k m ys.length then effB k m ys else []
theorem fine_len {k m : Int} {n : Nat} (h : Fine k m n) : 0 ≤ k ∧ k ≤ 3 ∧ 0 ≤ m ∧ m ≤ 511 ∧ n ≤ 1000 := by unfold Fine at h; omega
/-- The three writings of an effect that may be. -/
theorem eff_writes {k m : Int} {ys : List UInt8} (h : Fine k m ys.length) :
    wNum [] 0 k = (enc k.toNat, 0) ∧ wNum (enc k.toNat) 0 m = (enc k.toNat ++ enc m.toNat, 0) ∧ wRaw (enc k.toNat ++ enc m.toNat) 0 ys = (effB k m ys, 0) ∧ (enc k.toNat).length ≤ 9 ∧ (enc k.toNat ++ enc m.toNat).length ≤ 18 ∧ (effB k m ys).length ≤ 1100 := by
  obtain ⟨h1, h2, h3, h4, h5⟩ := fine_len h
  have b1 := nb_le k.toNat (by omega)
  have b2 := nb_le m.toNat (by omega)
  have b3 := nb_le ys.length (by omega)
  have l1 : (enc k.toNat).length = 1 + nb k.toNat := enc_len _
  have l2 : (enc m.toNat).length = 1 + nb m.toNat := enc_len _
  have l3 : (enc ys.length).length = 1 + nb ys.length := enc_len _
  refine ⟨?_, ?_, ?_, by omega, by rw [List.length_append]; omega, by unfold effB; simp only [List.length_append]; omega⟩
  · unfold wNum; rw [if_neg (by simp), if_neg (by omega), if_neg (by simp; omega), List.nil_append]
  · unfold wNum; rw [if_neg (by simp), if_neg (by omega), if_neg (by omega)]
  · unfold wRaw effB; rw [if_neg (by simp), if_neg (by simp only [List.length_append]; omega)]

set_option maxHeartbeats 1000000 in
theorem ebytes_any (w : World) (k m : Int) (A : Option Addr) (n c : Nat) (ys : List UInt8) (h : Bs w A n ys) (hn : n ≤ 140737488351232) :
    Calls Try.prog 11 #[.agg #[.int .i64 k, .int .i64 m, .slice A n c]] w fun e w' => ∃ A' c', e = .returned (.tuple #[.slice A' (effO k m ys).length c', .int .i64 (chkE k m n)]) ∧ Fresh w w' A' c' (effO k m ys) := by
  have hl := h.len
  subst hl
  obtain ⟨w0, hw0⟩ : ∃ w0 : World, w0 = w.alloc (.cells #[.int .i64 k, .int .i64 m, .slice A ys.length c] 24) := ⟨_, rfl⟩
  have c0 : Chg [] w w0 := hw0 ▸ (Chg.refl [] w).alloc _
  have b0 : w0.heap[w.heap.size]? = some (.cells #[.int .i64 k, .int .i64 m, .slice A ys.length c] 24 (0, 0)) := hw0 ▸ heap_alloc_new w _
  have k0 := cell_of b0 0
  have k1 := cell_of b0 1
  have k2 := cell_of b0 2
  simp only [List.getElem?_toArray, List.getElem?_cons_succ, List.getElem?_cons_zero] at k0 k1 k2
  have H := Lib.hid (h.chg c0 (by simp))
  have W0 := Lib.hid hw0
  have C0 := Lib.hid c0
  clear hw0 c0 b0 h
  unfold effO
  by_cases hf : Fine k m ys.length
  · rw [if_pos hf, chkE_fine hf]
    obtain ⟨e1, e2, e3, l1, l2, l3⟩ := eff_writes hf
    have E1 := Lib.hid e1
    have E2 := Lib.hid e2
    have E3 := Lib.hid e3
    have hc := check_any w0 k m A ys.length c hn
    rw [chkE_fine hf] at hc
    have HC := Lib.hid hc
    clear e1 e2 e3 hf hc
    go_enter Try.func11, Try.ntmps11
    go_wp2_with fail
    rw [← W0.out]
    refine HC.out.mono ?_
    rintro e w1 ⟨rfl, c1⟩
    have C1 := Lib.hid c1
    clear c1
    generalize w.heap.size = s at *
    go_wp2_with fail
    refine (ws_new w0 w1 C1.out).mono ?_
    rintro e w2 ⟨b, rfl, h2⟩
    have p0 := h2.chg.cell k0 (by simp)
    have K2 := Lib.hid h2
    clear h2 C1
    go_wp2_with fail
    refine (ws_num w0 w2 b [] 0 k K2.out (by simp)).mono ?_
    rintro e w3 ⟨rfl, h3⟩
    rw [E1.out] at h3
    have p1 := h3.chg.cell k1 (by simp)
    have K3 := Lib.hid h3
    clear h3 p0 K2
    go_wp2_with fail
    refine (ws_num w0 w3 b _ 0 m K3.out (by omega)).mono ?_
    rintro e w4 ⟨rfl, h4⟩
    rw [E2.out] at h4
    have p2 := h4.chg.cell k2 (by simp)
    have K4 := Lib.hid h4
    clear h4 p1 K3
    go_wp2_with fail
    refine (ws_raw w0 w4 b _ 0 A ys.length c ys K4.out (by omega) hn H.out).mono ?_
    rintro e w5 ⟨rfl, h5⟩
    rw [E3.out] at h5
    have K5 := Lib.hid h5
    clear h5 p2 K4
    go_wp2_with fail
    refine (ws_out w0 w5 b _ 0 K5.out (by omega)).mono ?_
    rintro e w6 ⟨A', c', rfl, h6⟩
    have e0 : outs (effB k m ys) 0 = effB k m ys := by simp [outs]
    rw [e0] at h6 ⊢
    have K6 := Lib.hid (h6.since C0.out)
    clear h6 e0 k0 k1 k2 K5
    go_wp2
    go_ret2
    exact ⟨A', c', rfl, K6.out⟩
  · rw [if_neg hf, chkE_odd hf]
    have hc := check_any w0 k m A ys.length c hn
    rw [chkE_odd hf] at hc
    have HC := Lib.hid hc
    clear hf hc
    go_enter Try.func11, Try.ntmps11
    go_wp2_with fail
    rw [← W0.out]
    refine HC.out.mono ?_
    rintro e w1 ⟨rfl, c1⟩
    have C1 := Lib.hid (C0.out.trans c1)
    clear c1
    go_wp2
    go_ret2
    exact ⟨none, 0, rfl, Fresh.none_ C1.out⟩
end Go.Proofs.Ytbihcoidbfoaoaa
