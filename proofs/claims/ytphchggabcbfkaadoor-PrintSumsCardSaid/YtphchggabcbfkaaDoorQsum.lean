/- The document's fingerprint, as bytes. -/
import Derived.Test.YtphchggabcbfkaaDoorQref
namespace Go.Proofs.YtphchggabcbfkaaDoor
open Go.RowKit
set_option linter.unusedSimpArgs false
set_option linter.unusedVariables false

set_option maxHeartbeats 1000000 in
theorem gmore_any (w : World) (s : Nat) (hs : s < 18446744073709551616) (A : Option Addr) (n c : Nat) (xs : List UInt8) (h : Bs w A n xs) (hn : n ≤ 140737488351232) :
    Calls Tryd.prog 14 #[.int .u64 (s : Int), .slice A n c] w fun e w' => e = .returned (.int .u64 (fnv s xs : Int)) ∧ w = w' := by
  have hl := h.len
  subst hl
  have HB := Lib.hid h
  have HS := Lib.hid hs
  clear h hs
  go_enter Tryd.func14, Tryd.ntmps14
  go_wp2
  go_loop [0, 5] (fun v i => ∃ k : Nat, k ≤ xs.length ∧ i = .int .i64 k ∧ v = .int .u64 (fnv s (xs.take k) : Int)) (fun _ i => xs.length - (intOf i).toNat)
  case atStart => exact ⟨0, by omega, rfl, rfl⟩
  case round =>
    obtain ⟨k, hk, rfl, rfl⟩ := hrel
    by_cases hlt : k < xs.length
    · obtain ⟨g, o, rfl, hc⟩ := HB.out.line (by omega)
      have hck := hc k hlt
      have hst := fnv_step (fnv s (xs.take k)) (xs.getD k 0) (fnv_lt _ _ HS.out)
      have ht := fnv_take s xs k hlt
      have HT := Lib.hid ht
      have HSt := Lib.hid hst
      clear hc ht hst
      generalize fnv s (xs.take k) = f at *
      generalize xs.getD k 0 = x at *
      go_wp2
      go_round
      case rel => exact ⟨k + 1, by omega, by go_num, by rw [HSt.out, HT.out]⟩
      case measure => simp [intOf]; omega
    · go_wp2
      go_ret
      have : k = xs.length := by omega
      subst this
      exact ⟨by rw [List.take_length]; rfl, rfl⟩
set_option maxHeartbeats 400000 in
theorem gstart_any (w : World) : Calls Tryd.prog 16 #[] w fun e w' => e = .returned (.int .u64 14695981039346656037) ∧ w = w' := by
  go_enter Tryd.func16, Tryd.ntmps16
  go_wp2
  go_ret
  exact ⟨rfl, rfl⟩
set_option maxHeartbeats 400000 in
theorem gsum_any (w : World) (A : Option Addr) (n c : Nat) (xs : List UInt8) (h : Bs w A n xs) (hn : n ≤ 140737488351232) :
    Calls Tryd.prog 12 #[.slice A n c] w fun e w' => e = .returned (.int .u64 (fnvS xs : Int)) ∧ w = w' := by
  have hc := gmore_any w fnv0 fnv0_lt A n c xs h hn
  change Calls _ _ _ _ (fun e w' => e = .returned (.int .u64 (fnvS xs : Int)) ∧ w = w') at hc
  have HC := Lib.hid hc
  clear h hc
  generalize fnvS xs = S at *
  go_enter Tryd.func12, Tryd.ntmps12
  go_wp2_with (first | (go_at_call 16; refine (gstart_any _).mono ?_; rintro e w1 ⟨rfl, rfl⟩) | (go_at_call 14; refine HC.out.mono ?_; rintro e w1 ⟨rfl, rfl⟩))
  go_ret
  exact ⟨rfl, rfl⟩
end Go.Proofs.YtphchggabcbfkaaDoor
