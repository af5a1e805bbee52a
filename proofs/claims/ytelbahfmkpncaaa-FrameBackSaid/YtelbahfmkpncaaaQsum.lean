/- The document's fingerprint, as bytes. -/
import Derived.Test.YtelbahfmkpncaaaQref
namespace Go.Proofs.Ytelbahfmkpncaaa
open Go.RowKit
set_option linter.unusedSimpArgs false
set_option linter.unusedVariables false

set_option maxHeartbeats 1000000 in
theorem gmore_any (w : World) (s : Nat) (hs : s < 18446744073709551616) (A : Option Addr) (n c : Nat) (xs : List UInt8) (h : Bs w A n xs) (hn : n ≤ 140737488351232) :
    Calls Try.prog 72 #[.int .u64 (s : Int), .slice A n c] w fun e w' => e = .returned (.int .u64 (fnv s xs : Int)) ∧ w = w' := by
  have hl := h.len
  subst hl
  have HB := Lib.hid h
  have HS := Lib.hid hs
  clear h hs
  go_enter Try.func72, Try.ntmps72
  go_wp2
  go_loop [0, 5] (fun v i => ∃ k : Nat, k ≤ xs.length ∧ i = .int .i64 k ∧ v = .int .u64 (fnv s (xs.take k) : Int)) (fun _ i => xs.length - (intOf i).toNat)
  case atStart => exact ⟨0, by omega, rfl, rfl⟩
  case round =>
    obtain ⟨k, hk, rfl, rfl⟩ := hrel
    by_cases hlt : k < xs.length
    · obtain ⟨g, o, rfl, hc⟩ := HB.out.line (by omega)
      have hck := hc k hlt
      have hst := fnv_step (fnv s (xs.take k)) (xs.getD k 0) (fnv_lt _ _ HS.out)
      have ht := fnv_take s xs k hlt
      have HT := Lib.hid ht
      have HSt := Lib.hid hst
      clear hc ht hst
      generalize fnv s (xs.take k) = f at *
      generalize xs.getD k 0 = x at *
      go_wp2
      go_round
      case rel => exact ⟨k + 1, by omega, by go_num, by rw [HSt.out, HT.out]⟩
      case measure => simp [intOf]; omega
    · go_wp2
      go_ret
      have : k = xs.length := by omega
      subst this
      exact ⟨by rw [List.take_length]; rfl, rfl⟩
set_option maxHeartbeats 400000 in
theorem gstart_any (w : World) : Calls Try.prog 73 #[] w fun e w' => e = .returned (.int .u64 14695981039346656037) ∧ w = w' := by
  go_enter Try.func73, Try.ntmps73
  go_wp2
  go_ret
  exact ⟨rfl, rfl⟩
set_option maxHeartbeats 400000 in
theorem gsum_any (w : World) (A : Option Addr) (n c : Nat) (xs : List UInt8) (h : Bs w A n xs) (hn : n ≤ 140737488351232) :
    Calls Try.prog 62 #[.slice A n c] w fun e w' => e = .returned (.int .u64 (fnvS xs : Int)) ∧ w = w' := by
  have hc := gmore_any w fnv0 fnv0_lt A n c xs h hn
  change Calls _ _ _ _ (fun e w' => e = .returned (.int .u64 (fnvS xs : Int)) ∧ w = w') at hc
  have HC := Lib.hid hc
  clear h hc
  generalize fnvS xs = S at *
  go_enter Try.func62, Try.ntmps62
  go_wp2_with (first | (go_at_call 73; refine (gstart_any _).mono ?_; rintro e w1 ⟨rfl, rfl⟩) | (go_at_call 72; refine HC.out.mono ?_; rintro e w1 ⟨rfl, rfl⟩))
  go_ret
  exact ⟨rfl, rfl⟩
set_option maxHeartbeats 1000000 in
theorem qsum_any (w : World) (A : Option Addr) (n c : Nat) (xs : List UInt8) (h : Bs w A n xs) (hn : n ≤ 140737488351232) :
    Calls Try.prog 40 #[.slice A n c] w fun e w' => ∃ A' c', e = .returned (.slice A' 8 c') ∧ Fresh w w' A' c' (sumB xs) := by
  have HC := Lib.hid (gsum_any w A n c xs h hn)
  clear h
  unfold sumB
  have hlt : fnvS xs < 18446744073709551616 := fnv_lt _ _ fnv0_lt
  generalize fnvS xs = S at *
  go_enter Try.func40, Try.ntmps40
  go_wp2_with (go_at_call 62; refine HC.out.mono ?_; rintro e w1 ⟨rfl, rfl⟩)
  go_loopw [3, 5] (fun s v wr => ∃ (p : List UInt8) (A' : Option Addr) (c' : Nat), p.length ≤ 8 ∧ v = .int .i64 (7 - (p.length : Int)) ∧ s = .slice A' p.length c' ∧ Fresh w wr A' c' p ∧ p = (be 8 S).take p.length) (fun _ v _ => (intOf v + 1).toNat)
  case atStart => exact ⟨[], none, 0, by simp, rfl, rfl, Fresh.none_ (Chg.refl _ _), rfl⟩
  case round =>
    obtain ⟨p, A1, c1, hk, rfl, rfl, ⟨f1, f2, f3⟩, hp⟩ := hrel
    have F2 := Lib.hid f2
    have HP := Lib.hid hp
    clear f2 hp
    by_cases hz : p.length < 8
    · have ht := sumB_take S p.length hz
      rw [← HP.out] at ht
      have HT := Lib.hid ht
      clear ht
      go_wp2_with (at_builtin; refine wpList_app rfl _ _ rfl rfl (f1.chg ((Chg.refl [] wr).alloc _) (by simp)) rfl rfl (Bs.one wr (UInt8.ofNat (S / 256 ^ (7 - p.length))) _ (u8_shift S (7 - p.length))) (by omega) ?_; intro A' c' w1 own1 hg1 hA1)
      have Hh := Lib.hid (app_fresh own1 F2.out f3 hg1 hA1)
      clear own1 hg1 hA1
      go_roundw
      case rel => exact ⟨p ++ [UInt8.ofNat (S / 256 ^ (7 - p.length))], A', c', by simp; omega, by simp; omega, by simp, Hh.out, by rw [List.length_append]; exact HT.out.symm⟩
      case measure => simp [intOf]; omega
    · go_wp2
      go_ret
      have e8 : p.length = 8 := by omega
      rw [e8, List.take_of_length_le (by rw [be_len]; omega)] at HP
      have := HP.out
      subst this
      rw [e8]
      exact ⟨A1, c1, rfl, f1, F2.out, f3⟩
end Go.Proofs.Ytelbahfmkpncaaa
