/- The walk of FrameDamaged, the packets that may be. -/
import Derived.Test.YtelbahfmkpncaaaFdam
import Derived.Deep.Cut
import Derived.Deep.CutRange
namespace Go.Proofs.Ytelbahfmkpncaaa
open Go.RowKit
set_option linter.unusedSimpArgs false
set_option linter.unusedVariables false

theorem wrap_u8 (n : Int) : IntKind.u8.wrap n = n % 256 := by simp [IntKind.wrap, IntKind.bits, IntKind.signed]
theorem u8_xor (a b : UInt8) : bits .xor .u8 (a.toNat : Int) (b.toNat : Int) = (((a ^^^ b).toNat : Nat) : Int) := by
  have ha := a.toNat_lt
  have hb := b.toNat_lt
  have hx : a.toNat ^^^ b.toNat < 2 ^ 8 := Nat.xor_lt_two_pow ha hb
  have h1 : (BitVec.ofInt 8 (a.toNat : Int)).toNat = a.toNat := by
    rw [BitVec.ofInt_natCast, BitVec.toNat_ofNat]; exact Nat.mod_eq_of_lt ha
  have h2 : (BitVec.ofInt 8 (b.toNat : Int)).toNat = b.toNat := by
    rw [BitVec.ofInt_natCast, BitVec.toNat_ofNat]; exact Nat.mod_eq_of_lt hb
  show IntKind.u8.wrap ((BitVec.ofInt 8 (a.toNat : Int) ^^^ BitVec.ofInt 8 (b.toNat : Int)).toNat : Int) = _
  rw [BitVec.toNat_xor, h1, h2, wrap_u8, UInt8.toNat_xor]
  omega
theorem xor_other (a b : UInt8) (h : ¬ (b.toNat : Int) = 0) : a ^^^ b ≠ a := by
  intro e
  have h1 := congrArg UInt8.toNat e
  rw [UInt8.toNat_xor] at h1
  have h2 : a.toNat ^^^ b.toNat = a.toNat ^^^ 0 := by rw [h1, Nat.xor_zero]
  have := xor_l h2
  omega

theorem pkB_len {f t m a : Int} {ys : List UInt8} (h : FineP f t m a ys.length) : (pkB f t m a ys).length ≤ 500 := by
  have z0 := enc_le (x := f) ⟨by have := h.1; omega, h.2.1⟩
  have z1 := enc_le h.2.2.1
  have z2 := enc_le h.2.2.2.1
  have z3 := enc_le h.2.2.2.2.1
  have hy : ys.length ≤ 400 := h.2.2.2.2.2.1
  have := nb_le ys.length (by omega)
  unfold pkB
  simp only [List.length_append, enc_len] at *
  omega

set_option maxHeartbeats 4000000 in
theorem damaged_fine (w : World) (f t m a x : Int) (k : UInt8) (A : Option Addr) (n c : Nat) (ys : List UInt8) (h : Bs w A n ys) (hn : n ≤ 140737488351232) (ho : FineP f t m a n) :
    Calls Try.prog 7 #[.agg #[.int .i64 f, .int .i64 t, .int .i64 m, .int .i64 a, .slice A n c], .int .i64 x, .int .u8 (k.toNat : Int)] w fun r w' => r = .returned (.bool true) ∧ Chg [] w w' := by
  have hl := h.len
  subst hl
  obtain ⟨w0, hw0⟩ : ∃ w0 : World, w0 = w.alloc (.cells #[.int .i64 f, .int .i64 t, .int .i64 m, .int .i64 a, .slice A ys.length c] 24) := ⟨_, rfl⟩
  have c0 : Chg [] w w0 := hw0 ▸ (Chg.refl [] w).alloc _
  have b0 : w0.heap[w.heap.size]? = some (.cells #[.int .i64 f, .int .i64 t, .int .i64 m, .int .i64 a, .slice A ys.length c] 24 (0, 0)) := hw0 ▸ heap_alloc_new w _
  have H := Lib.hid (h.chg c0 (by simp))
  have B0 := Lib.hid b0
  have W0 := Lib.hid hw0
  have C0 := Lib.hid c0
  have HO := Lib.hid ho
  clear hw0 c0 b0 h ho
  go_enter Try.func7, Try.ntmps7
  go_wp2_with fail
  rw [← W0.out]
  refine (awake17_any w0).mono ?_
  rintro e w1 ⟨rfl, c1⟩
  have q := c1.at_ B0.out (by simp)
  have k0 := cell_of q 0
  have k1 := cell_of q 1
  have k2 := cell_of q 2
  have k3 := cell_of q 3
  have k4 := cell_of q 4
  simp only [List.getElem?_toArray, List.getElem?_cons_succ, List.getElem?_cons_zero] at k0 k1 k2 k3 k4
  have B1 := Lib.hid q
  have H1 := Lib.hid (H.out.chg c1 (by simp))
  have C1 := Lib.hid (C0.out.trans c1)
  have C1k := Lib.hid (C0.out.trans c1)
  clear c1 q B0 H
  generalize w.heap.size = s0 at *
  go_wp2_with fail
  refine (pput_any w1 f t m a A ys.length c ys H1.out hn).mono ?_
  have hy : ys.length ≤ 400 := HO.out.2.2.2.2.2.1
  have hzl := pkB_len HO.out
  rw [pkO_fine HO.out, chkP_fine HO.out]
  generalize pkB f t m a ys = zs at *
  have hw : ∀ (i : Nat) (x : UInt8) (hi : i < (zs ++ sumB zs).length), x ≠ (zs ++ sumB zs)[i] → readP ((zs ++ sumB zs).set i x) = ((0, 0, 0, 0, []), (11, 0)) := fun i x hi hx => by
    unfold readP
    exact if_neg (not_whole zs i x hi hx)
  have hL : 8 ≤ (zs ++ sumB zs).length ∧ (zs ++ sumB zs).length ≤ 1000 := by simp [sumB_len]; omega
  obtain ⟨hL, hLm⟩ := hL
  have HW := Lib.hid hw
  clear hw
  generalize zs ++ sumB zs = S at *
  rintro e w2 ⟨A2, c2, rfl, f2⟩
  have q := f2.2.2.at_ B1.out (by simp)
  have k4 := cell_of q 4
  simp only [List.getElem?_toArray, List.getElem?_cons_succ, List.getElem?_cons_zero] at k4
  have C2 := Lib.hid (C1.out.trans f2.2.2)
  have F2 := Lib.hid f2
  have hS0 : ¬ S.length = 0 := by omega
  have hS1 : 0 < S.length := by omega
  clear f2 q k0 k1 k2 k3 B1 H1 C1
  have e1 : ((S.length : Int) == 0) = false := beq_eq_false_iff_ne.2 (by omega)
  have e3 : decide (400 < (ys.length : Int)) = false := by simp; omega
  by_cases hk : (k.toNat : Int) = 0
  · have e2 : ((k.toNat : Int) == 0) = true := by simpa using hk
    go_wp2
    go_ret
    exact ⟨rfl, C2.out⟩
  · have e2 : ((k.toNat : Int) == 0) = false := by simpa using hk
    obtain ⟨i, hi, hiL⟩ : ∃ i : Nat, x % (S.length : Int) = (i : Int) ∧ i < S.length := ⟨(x % (S.length : Int)).toNat, by have := Int.emod_nonneg x (show (S.length : Int) ≠ 0 by omega); omega, by have := Int.emod_nonneg x (show (S.length : Int) ≠ 0 by omega); have := Int.emod_lt_of_pos x (show 0 < (S.length : Int) by omega); omega⟩
    have hLmax := F2.out.1.cap
    have hp := pick_any w2 x S.length (by omega) (by omega)
    rw [hi] at hp
    have HPk := Lib.hid hp
    have hd := HW.out i (S[i] ^^^ k) hiL (xor_other _ _ hk)
    have HD := Lib.hid hd
    have HK := Lib.hid hk
    obtain ⟨ho, hnew, _⟩ := F2.out
    rcases ho with ⟨rfl, h0, _⟩ | ⟨g, full, rfl, hrow, hfl, hmx, hle, htk⟩
    · rw [h0] at hS1; simp at hS1
    have hnew' : w1.heap.size ≤ g := hnew _ rfl
    have R : Row w2 g full := hrow
    have hcell := R.cell i (by omega)
    have hfr := free_of hrow i
    have hg : full.getD i 0 = S[i] := by
      have : S[i] = (full.take S.length)[i]'(by rw [htk]; exact hiL) := by simp [htk]
      rw [this, List.getElem_take]
      simp [List.getD, show i < full.length by omega]
    rw [hg] at hcell
    have hux := u8_xor S[i] k
    generalize S[i] ^^^ k = X at *
    have row3 := R.set i (X.toNat : Int) X rfl
    have own3 : OwnB (w2.setCell ⟨g, i, none⟩ (.int .u8 (X.toNat : Int))) (some ⟨g, 0, none⟩) c2 (S.set i X) := .inr ⟨g, full.set i X, rfl, row3, by simpa using hfl, hmx, by simpa using hle, by rw [List.length_set, List.take_set, htk]⟩
    have b3 := own3.reads
    rw [List.length_set] at b3
    have hgt := pget_any _ (some ⟨g, 0, none⟩) S.length c2 (S.set i X) b3 (by omega) hle (by unfold maxLen at hmx; omega)
    rw [HD.out] at hgt
    have HG := Lib.hid hgt
    have hs1 : w.heap.size ≤ g := by have := C1k.out.size; omega
    have C3 := Lib.hid (C2.out.setCell (p := ⟨g, i, none⟩) (.inr hs1) (.int .u8 (X.toNat : Int)))
    have hiI : (i : Int) < S.length := by omega
    clear hp hd hk hi hrow hnew R HW F2 hg row3 own3 b3 hgt hfl hmx hle htk
    go_wp2_with fail
    refine HPk.out.mono ?_
    rintro e w3 ⟨rfl, rfl⟩
    go_wp2_with fail
    refine HG.out.mono ?_
    rintro e w4 ⟨A4, c4, rfl, f4⟩
    have C4 := Lib.hid (C3.out.trans f4.2.2)
    clear f4 HG C3 C2 hcell hfr hux k4 HPk
    obtain ⟨w6, hw6⟩ : ∃ w6 : World, w6 = (w4.alloc (.cells #[.int .i64 0, .int .i64 0, .int .i64 0, .int .i64 0, .slice A4 0 c4] 24)).alloc (.cells #[.int .i64 11, .int .i64 0] 32) := ⟨_, rfl⟩
    have c6 : Chg [] w4 w6 := hw6 ▸ ((Chg.refl [] w4).alloc _).alloc _
    have b0 : w6.heap[w4.heap.size]? = some (.cells #[.int .i64 0, .int .i64 0, .int .i64 0, .int .i64 0, .slice A4 0 c4] 24 (0, 0)) := hw6 ▸ ((Chg.refl [] _).alloc _).at_ (heap_alloc_new w4 _) (by simp)
    have b1 : w6.heap[w4.heap.size + 1]? = some (.cells #[.int .i64 11, .int .i64 0] 32 (0, 0)) := hw6 ▸ heap_alloc_two w4 _ _
    have z0 := cell_of b0 0
    have z5 := cell_of b1 0
    have z6 := cell_of b1 1
    simp only [List.getElem?_toArray, List.getElem?_cons_succ, List.getElem?_cons_zero] at z0 z5 z6
    have C6 := Lib.hid (C4.out.trans c6)
    have W6 := Lib.hid hw6
    clear hw6 c6 b0 b1 C4
    go_upto_region 8 with fail
    rw [← W6.out]
    generalize w4.heap.size + 1 = s2 at *
    generalize w4.heap.size = s1 at *
    go_wp2_with fail
    go_ret
    exact ⟨rfl, C6.out⟩

theorem damaged_any (w : World) (f t m a x k : Int) (hk0 : 0 ≤ k) (hk1 : k < 256) (A : Option Addr) (n c : Nat) (ys : List UInt8) (h : Bs w A n ys) (hn : n ≤ 140737488351232) :
    Calls Try.prog 7 #[.agg #[.int .i64 f, .int .i64 t, .int .i64 m, .int .i64 a, .slice A n c], .int .i64 x, .int .u8 k] w fun r w' => r = .returned (.bool true) ∧ Chg [] w w' := by
  by_cases ho : FineP f t m a n
  · have e : k = ((UInt8.ofNat k.toNat).toNat : Int) := u8_of k k.toNat (by omega) (by omega)
    rw [e]
    exact damaged_fine w f t m a x (UInt8.ofNat k.toNat) A n c ys h hn ho
  · exact damaged_odd w f t m a x k A n c ys h hn ho
end Go.Proofs.Ytelbahfmkpncaaa
