/- strings.Repeat of '0', print.Text. -/
import Derived.Test.YtphchggabcbfkaaDoorFmt
namespace Go.Proofs.YtphchggabcbfkaaDoor
open Go.RowKit
set_option linter.unusedSimpArgs false
set_option linter.unusedVariables false

set_option maxHeartbeats 400000 in
theorem ifmt_16 (w : World) (u : Nat) (hu : u < 18446744073709551616) (hT : Tab w) :
    Calls Tryd.prog 40 #[.int .u64 (u : Int), .int .i64 16] w fun e w' => e = .returned (.string (strOf (hexs (ndig u) u))) ∧ Chg [] w w' := by
  have HT := Lib.hid hT
  have HU := Lib.hid hu
  clear hT hu
  go_enter Tryd.func40, Tryd.ntmps40
  go_wp2_with (go_at_call 50; refine (formatBits_16 _ u HU.out HT.out).mono ?_; rintro e w1 ⟨rfl, hc⟩)
  go_ret
  exact ⟨rfl, hc⟩
set_option maxHeartbeats 400000 in
theorem fmt_16 (w : World) (u : Nat) (hu : u < 18446744073709551616) (hT : Tab w) :
    Calls Tryd.prog 36 #[.int .u64 (u : Int), .int .i64 16] w fun e w' => e = .returned (.string (strOf (hexs (ndig u) u))) ∧ Chg [] w w' := by
  have HT := Lib.hid hT
  have HU := Lib.hid hu
  clear hT hu
  go_enter Tryd.func36, Tryd.ntmps36
  go_wp2_with (go_at_call 40; refine (ifmt_16 _ u HU.out HT.out).mono ?_; rintro e w1 ⟨rfl, hc⟩)
  go_ret
  exact ⟨rfl, hc⟩
set_option maxHeartbeats 400000 in
theorem mul64_1 (w : World) (n : Nat) (hn : n ≤ 15) : Calls Tryd.prog 52 #[.int .u64 1, .int .u64 (n : Int)] w fun e w' => e = .returned (.tuple #[.int .u64 0, .int .u64 (n : Int)]) ∧ w = w' := by
  have h1 : bits .and .u64 1 4294967295 = 1 := by decide +kernel
  have h0 : bits .and .u64 0 4294967295 = 0 := by decide +kernel
  have h2 : bits .and .u64 (n : Int) 4294967295 = n := by
    rw [show (4294967295 : Int) = ((4294967295 : Nat) : Int) by rfl, bits_and_u64_nat n 4294967295 (by omega) (by omega), show (4294967295 : Nat) = 2 ^ 32 - 1 by rfl, Nat.and_two_pow_sub_one_eq_mod, Nat.mod_eq_of_lt (by omega)]
  have h3 : (n : Int) / 4294967296 = 0 := by omega
  go_enter Tryd.func52, Tryd.ntmps52
  go_wp2
  go_ret2
  exact ⟨rfl, rfl⟩
set_option maxHeartbeats 400000 in
theorem mul_1 (w : World) (n : Nat) (hn : n ≤ 15) : Calls Tryd.prog 41 #[.int .u64 1, .int .u64 (n : Int)] w fun e w' => e = .returned (.tuple #[.int .u64 0, .int .u64 (n : Int)]) ∧ w = w' := by
  go_enter Tryd.func41, Tryd.ntmps41
  go_wp2_with (go_at_call 52; refine (mul64_1 _ n hn).mono ?_; rintro e w1 ⟨rfl, rfl⟩)
  go_ret2
  exact ⟨rfl, rfl⟩
def zs : ByteArray := ⟨#[48]⟩
set_option maxRecDepth 100000 in
set_option maxHeartbeats 1000000 in
theorem prefix_1 (w : World) (Z : ByteArray) (hZ : 1 ≤ Z.size) (h1 : Z.extract 0 1 = ⟨#[48]⟩) : Calls Tryd.prog 53 #[.string Z, .string ⟨#[48]⟩] w fun e w' => e = .returned (.bool true) ∧ w = w' := by
  go_enter Tryd.func53, Tryd.ntmps53
  go_wp2
  go_ret
  exact ⟨rfl, rfl⟩
set_option maxRecDepth 100000 in
set_option maxHeartbeats 1000000 in
theorem prefix_2 (w : World) (Z : ByteArray) (hZ : 1 ≤ Z.size) (h1 : Z.extract 0 1 = ⟨#[48]⟩) : Calls Tryd.prog 42 #[.string Z, .string ⟨#[48]⟩] w fun e w' => e = .returned (.bool true) ∧ w = w' := by
  go_enter Tryd.func42, Tryd.ntmps42
  go_wp2_with (go_at_call 53; refine (prefix_1 _ Z hZ h1).mono ?_; rintro e w1 ⟨rfl, rfl⟩)
  go_ret
  exact ⟨rfl, rfl⟩
set_option maxRecDepth 100000 in
set_option maxHeartbeats 1000000 in
theorem prefix_1s (w : World) (Z : ByteArray) (hZ : 1 ≤ Z.size) (h1 : Z.extract 0 1 = ⟨#[32]⟩) : Calls Tryd.prog 53 #[.string Z, .string ⟨#[48]⟩] w fun e w' => e = .returned (.bool false) ∧ w = w' := by
  go_enter Tryd.func53, Tryd.ntmps53
  go_wp2
  go_ret
  exact ⟨rfl, rfl⟩
set_option maxRecDepth 100000 in
set_option maxHeartbeats 1000000 in
theorem prefix_2s (w : World) (Z : ByteArray) (hZ : 1 ≤ Z.size) (h1 : Z.extract 0 1 = ⟨#[32]⟩) : Calls Tryd.prog 42 #[.string Z, .string ⟨#[48]⟩] w fun e w' => e = .returned (.bool false) ∧ w = w' := by
  go_enter Tryd.func42, Tryd.ntmps42
  go_wp2_with (go_at_call 53; refine (prefix_1s _ Z hZ h1).mono ?_; rintro e w1 ⟨rfl, rfl⟩)
  go_ret
  exact ⟨rfl, rfl⟩
set_option maxRecDepth 100000 in
set_option maxHeartbeats 1000000 in
theorem prefix_1d (w : World) (Z : ByteArray) (hZ : 1 ≤ Z.size) (h1 : Z.extract 0 1 = ⟨#[45]⟩) : Calls Tryd.prog 53 #[.string Z, .string ⟨#[48]⟩] w fun e w' => e = .returned (.bool false) ∧ w = w' := by
  go_enter Tryd.func53, Tryd.ntmps53
  go_wp2
  go_ret
  exact ⟨rfl, rfl⟩
set_option maxRecDepth 100000 in
set_option maxHeartbeats 1000000 in
theorem prefix_2d (w : World) (Z : ByteArray) (hZ : 1 ≤ Z.size) (h1 : Z.extract 0 1 = ⟨#[45]⟩) : Calls Tryd.prog 42 #[.string Z, .string ⟨#[48]⟩] w fun e w' => e = .returned (.bool false) ∧ w = w' := by
  go_enter Tryd.func42, Tryd.ntmps42
  go_wp2_with (go_at_call 53; refine (prefix_1d _ Z hZ h1).mono ?_; rintro e w1 ⟨rfl, rfl⟩)
  go_ret
  exact ⟨rfl, rfl⟩
set_option maxRecDepth 100000 in
set_option maxHeartbeats 4000000 in
theorem repeat_0 (w : World) (n : Nat) (hn : n ≤ 15) : Calls Tryd.prog 37 #[.string ⟨#[48]⟩, .int .i64 (n : Int)] w fun e w' => e = .returned (.string (strOf (List.replicate n 48))) ∧ w = w' := by
  have hcut : ∀ m : Fin 16, (⟨(List.replicate 64 48).toArray⟩ : ByteArray).extract 0 m.val = strOf (List.replicate m.val 48) := by decide +kernel
  have hz := hcut ⟨n, by omega⟩
  have hl : (List.replicate 64 (48 : UInt8)).toArray = #[48, 48, 48, 48, 48, 48, 48, 48, 48, 48, 48, 48, 48, 48, 48, 48, 48, 48, 48, 48, 48, 48, 48, 48, 48, 48, 48, 48, 48, 48, 48, 48, 48, 48, 48, 48, 48, 48, 48, 48, 48, 48, 48, 48, 48, 48, 48, 48, 48, 48, 48, 48, 48, 48, 48, 48, 48, 48, 48, 48, 48, 48, 48, 48] := by decide +kernel
  rw [hl] at hz
  simp only at hz
  clear hcut hl
  by_cases h0 : n = 0
  · subst h0
    go_enter Tryd.func37, Tryd.ntmps37
    go_wp2
    go_ret
    exact ⟨rfl, rfl⟩
  by_cases h1 : n = 1
  · subst h1
    go_enter Tryd.func37, Tryd.ntmps37
    go_wp2
    go_ret
    exact ⟨rfl, rfl⟩
  have h48 : (⟨#[48]⟩ : ByteArray)[0]'(by decide) = 48 := by decide +kernel
  have hz0 : ((n : Int) == 0) = false := by simpa using h0
  have hz1 : ((n : Int) == 1) = false := by simp; omega
  go_enter Tryd.func37, Tryd.ntmps37
  go_wp2_with (first
    | (go_at_call 41; refine (mul_1 _ n hn).mono ?_; rintro e w1 ⟨rfl, rfl⟩)
    | (go_at_call 42; first | (refine (prefix_2 _ _ (by decide +kernel) (by decide +kernel)).mono ?_; rintro e w1 ⟨rfl, rfl⟩) | (refine (prefix_2s _ _ (by decide +kernel) (by decide +kernel)).mono ?_; rintro e w1 ⟨rfl, rfl⟩) | (refine (prefix_2d _ _ (by decide +kernel) (by decide +kernel)).mono ?_; rintro e w1 ⟨rfl, rfl⟩)))
  go_ret
  exact ⟨rfl, rfl⟩
theorem strOf_app (xs ys : List UInt8) : strOf xs ++ strOf ys = strOf (xs ++ ys) := by
  apply ByteArray.ext
  simp [strOf, ByteArray.append]
set_option maxHeartbeats 400000 in
theorem text_ok (w : World) (u : Nat) (hu : u < 18446744073709551616) (hT : Tab w) :
    Calls Tryd.prog 22 #[.int .u64 (u : Int)] w fun e w' => e = .returned (.string (strOf (hexs 16 u))) ∧ Chg [] w w' := by
  have hd := ndig_le 15 u (by omega)
  have hp := ndig_pos u
  have hx := hexs_text u hu
  have hs : (strOf (hexs (ndig u) u)).size = ndig u := by rw [strOf_size, hexs_len]
  have hr : (strOf (List.replicate (16 - ndig u) 48)).size = 16 - ndig u := by rw [strOf_size, List.length_replicate]
  have hsub : (16 : Int) - (ndig u : Int) = ((16 - ndig u : Nat) : Int) := by omega
  have HT := Lib.hid hT
  have HU := Lib.hid hu
  have HX := Lib.hid hx
  clear hT hu hx
  go_enter Tryd.func22, Tryd.ntmps22
  go_wp2_with (first
    | (go_at_call 36; refine (fmt_16 _ u HU.out HT.out).mono ?_; rintro e w1 ⟨rfl, hc⟩)
    | (go_at_call 37; refine (repeat_0 _ (16 - ndig u) (by omega)).mono ?_; rintro e w1 ⟨rfl, rfl⟩))
  go_ret
  refine ⟨?_, hc⟩
  rw [← HX.out, ← strOf_app]
  rfl
end Go.Proofs.YtphchggabcbfkaaDoor
