/- The numbers of bytes: the program's, the document's. -/
import Derived.Test.YtpgelolchfglbaaPbytes3
namespace Go.Proofs.Ytpgelolchfglbaa
open Go.RowKit Go.Lib
set_option linter.unusedSimpArgs false
set_option linter.unusedVariables false

def numB (ys : List UInt8) : Nat := ys.foldl (fun n x => n * 256 + x.toNat) 0
theorem numB_snoc (ys : List UInt8) (x : UInt8) : numB (ys ++ [x]) = numB ys * 256 + x.toNat := by simp [numB]
theorem numB_lt : ∀ (k : Nat) (ys : List UInt8), ys.length ≤ k → numB ys < 256 ^ k
  | 0, ys, h => by
    have : ys = [] := List.length_eq_zero_iff.1 (by omega)
    subst this
    simp [numB]
  | k + 1, ys, h => by
    rcases List.eq_nil_or_concat ys with rfl | ⟨l, x, rfl⟩
    · simp only [numB, List.foldl_nil]; exact Nat.pow_pos (by decide)
    · rw [List.concat_eq_append, numB_snoc]
      have h1 := numB_lt k l (by simp at h; omega)
      have h2 : x.toNat < 256 := x.toNat_lt
      rw [Nat.pow_succ]
      omega
theorem or8P (a b : Nat) (hb : b < 256) (h : a < 4294967296) : bits .or .i64 ((a : Int) * 256) (b : Int) = (a : Int) * 256 + (b : Int) := by
  have h1 : (BitVec.ofInt 64 ((a * 256 : Nat) : Int)).toNat = a * 256 := by
    rw [BitVec.ofInt_natCast, BitVec.toNat_ofNat]; exact Nat.mod_eq_of_lt (by omega)
  have h2 : (BitVec.ofInt 64 (b : Int)).toNat = b := by
    rw [BitVec.ofInt_natCast, BitVec.toNat_ofNat]; exact Nat.mod_eq_of_lt (by omega)
  have hj : a * 256 ||| b = a * 256 + b := by
    have := Nat.shiftLeft_add_eq_or_of_lt (b := b) (i := 8) (by omega) a
    rw [Nat.shiftLeft_eq] at this
    exact this.symm
  rw [show (a : Int) * 256 = ((a * 256 : Nat) : Int) by omega]
  show IntKind.i64.wrap ((BitVec.ofInt 64 ((a * 256 : Nat) : Int) ||| BitVec.ofInt 64 (b : Int)).toNat : Int) = _
  rw [BitVec.toNat_or, h1, h2, hj, IntWalk.i64_in _ (by omega)]
  omega
set_option maxRecDepth 100000 in
theorem pnum1_any (w : World) (a b : Nat) (hb : b < 256) (ha : a < 4294967296) :
    Calls Try.prog 83 #[.int .i64 (a : Int), .int .u8 (b : Int)] w fun e w' => e = .returned (.int .i64 ((a * 256 + b : Nat) : Int)) ∧ Chg [] w w' := by
  have e1 := or8P a b hb ha
  go_enter Try.func83, Try.ntmps83
  go_wp2
  go_ret
  exact ⟨by simp, Chg.refl _ _⟩
set_option maxRecDepth 100000 in
set_option maxHeartbeats 2000000 in
theorem pfoldb_any (w : World) (A : Option Addr) (n c : Nat) (ys : List UInt8) (h : Bs w A n ys) (hn : ys.length ≤ 4) :
    Calls Try.prog 82 #[.slice A n c, .int .i64 0, .func (.func 83) #[] #[]] w fun e w' => e = .returned (.int .i64 (numB ys : Int)) ∧ Chg [] w w' := by
  have hl := h.len
  subst hl
  have HX := Lib.hid h
  clear h
  go_enter Try.func82, Try.ntmps82
  go_wp2
  go_loopw [1, 11] (fun v1 v11 wr => ∃ (k : Nat), k ≤ ys.length ∧ v1 = .int .i64 (numB (ys.take k) : Int) ∧ v11 = .int .i64 k ∧ Hid (Chg [] w wr)) (fun _ v11 _ => ys.length - (RowKit.intOf v11).toNat)
  case atStart => exact ⟨0, Nat.zero_le _, rfl, rfl, Chg.refl _ _⟩
  case round =>
    obtain ⟨k, hk, rfl, rfl, HI⟩ := hrel
    generalize wr = w4 at *
    clear wr
    by_cases hlt : k < ys.length
    · have hb4 := HX.out.chg HI.out (by simp)
      have ex := List.getElem?_eq_getElem hlt
      obtain ⟨ad, eA, hc0⟩ := hb4.cells 0 _ (List.getElem?_eq_getElem (show 0 < ys.length by omega))
      have hsp := World.cell?_spot hc0
      obtain ⟨g, o, sp⟩ := ad
      have hsp : sp = none := by simpa [Addr.add] using hsp
      subst hsp eA
      clear hc0
      obtain ⟨ad, eA, hc⟩ := hb4.cells k _ ex
      cases eA
      generalize ys[k] = x at *
      rw [add_lit] at hc
      have i0 : (0 : Int) ≤ (k : Int) := by omega
      have i1 : (k : Int) < (ys.length : Int) := by omega
      have hnm := numB_lt 3 (ys.take k) (by rw [List.length_take]; omega)
      have HN := Lib.hid (show numB (ys.take k) < 4294967296 by omega)
      have e2 : numB (ys.take (k + 1)) = numB (ys.take k) * 256 + x.toNat := by rw [List.take_add_one, ex]; exact numB_snoc _ _
      have E2 := Lib.hid e2
      clear hb4 ex hnm e2
      generalize numB (ys.take k) = m at *
      unfold bv at hc
      go_wp2_with fail
      refine (pnum1_any _ m x.toNat x.toNat_lt HN.out).mono ?_
      rintro e w5 ⟨rfl, hcc⟩
      have CE := Lib.hid (HI.out.trans hcc)
      clear hcc hc
      go_wp2
      go_round
      case rel => exact ⟨k + 1, by omega, by rw [E2.out, Int.natCast_add, Int.natCast_mul]; rfl, by go_num, CE.out⟩
      case measure => simp [RowKit.intOf]; omega
    · obtain rfl : k = ys.length := by omega
      rw [show ys.take ys.length = ys from List.take_length]
      go_wp2
      go_ret
      exact ⟨rfl, HI.out⟩
theorem panumber_any (w : World) (A : Option Addr) (n c : Nat) (ys : List UInt8) (h : Bs w A n ys) (hn : ys.length ≤ 4) :
    Calls Try.prog 72 #[.slice A n c] w fun e w' => e = .returned (.int .i64 (numB ys : Int)) ∧ Chg [] w w' := by
  have HX := Lib.hid h
  have HN := Lib.hid hn
  clear h hn
  go_enter Try.func72, Try.ntmps72
  go_wp2_with fail
  refine (pfoldb_any _ A n c ys HX.out HN.out).mono ?_
  rintro e w1 ⟨rfl, hc⟩
  have C := Lib.hid hc
  clear hc
  go_wp2
  go_ret
  exact ⟨rfl, C.out⟩
end Go.Proofs.Ytpgelolchfglbaa
