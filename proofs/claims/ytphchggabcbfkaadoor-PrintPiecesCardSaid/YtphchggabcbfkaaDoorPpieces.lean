/- PrintPieces: it does not matter in which pieces bytes come. -/
import Derived.Test.YtphchggabcbfkaaDoorPknown
import Derived.Test.YtphchggabcbfkaaDoorNargs
import Derived.Test.YtphchggabcbfkaaDoorUw
namespace Go.Proofs.YtphchggabcbfkaaDoor
open Go.RowKit
set_option linter.unusedSimpArgs false
set_option linter.unusedVariables false

theorem fnv_app (s : Nat) (xs ys : List UInt8) : fnv s (xs ++ ys) = fnv (fnv s xs) ys := by simp [fnv]
theorem Bs.part' {w : World} {A : Option Addr} {n : Nat} {xs : List UInt8} (h : Bs w A n xs) (q m : Nat) (hq : q + m ≤ n) : Bs w (Option.map (fun x => x.add q) A) m ((xs.drop q).take m) := by
  have hl := h.len
  subst hl
  exact h.part q m hq
set_option maxRecDepth 100000 in
set_option maxHeartbeats 2000000 in
theorem pieces_true (w : World) (hT : Tab w) (A : Option Addr) (n c : Nat) (xs : List UInt8) (h : Bs w A n xs) (hn : n ≤ 140737488351232) (hnc : n ≤ c) (B : Option Addr) (m d : Nat) (zs : List Int) (hz : Is w B m zs) (hm : m * 8 ≤ 140737488351232) :
    Calls Tryd.prog 6 #[.slice A n c, .slice B m d] w fun r w' => r = .returned (.bool true) ∧ Chg [] w w' := by
  have HT := Lib.hid hT
  clear hT
  go_enter Tryd.func6, Tryd.ntmps6
  go_wp2_with fail
  refine (known_true _ HT.out).mono ?_
  rintro r w1 ⟨rfl, c1⟩
  have HB := Lib.hid (h.chg c1 (by simp))
  have HZ := Lib.hid (hz.chg c1 (by simp))
  have HC := Lib.hid c1
  have HL := Lib.hid h.len
  clear c1 h hz
  refine (Decidable.em (3000 < n ∨ 20 < m)).elim (fun hp => ?big) (fun hp => ?small)
  case big =>
    by_cases h3 : 3000 < n
    · go_wp2
      go_ret
      exact ⟨rfl, HC.out⟩
    · have h4 : 20 < m := by omega
      clear hp
      go_wp2
      go_ret
      exact ⟨rfl, HC.out⟩
  case small =>
    have hp1 : n ≤ 3000 := by omega
    have hp2 : m ≤ 20 := by omega
    clear hp
    go_wp2_with fail
    refine (start_any _).mono ?_
    rintro r w2 ⟨rfl, rfl⟩
    go_wp2_with fail
    go_loop [6, 7, 8] (fun s f i => ∃ k p : Nat, k ≤ m ∧ p ≤ n ∧ i = .int .i64 k ∧ f = .int .i64 p ∧ s = .int .u64 (fnv fnv0 (xs.take p) : Int)) (fun _ _ i => m - (intOf i).toNat)
    case atStart => exact ⟨0, 0, by omega, by omega, rfl, rfl, rfl⟩
    case round =>
      obtain ⟨k, p, hk, hp, rfl, rfl, rfl⟩ := hrel
      have hlt := fnv_lt fnv0 (xs.take p) fnv0_lt
      refine (Decidable.em (k < m)).elim (fun h1 => ?more) (fun h1 => ?done)
      case more =>
        obtain ⟨g, o, rfl, hcs⟩ := HZ.out.line (by omega)
        have hck := hcs k h1
        clear hcs
        obtain ⟨z, hzz⟩ : ∃ z, zs.getD k 0 = z := ⟨_, rfl⟩
        rw [hzz] at hck
        clear hzz
        go_wp2_with fail
        refine (pick_any _ z ((n : Int) - (p : Int) + 1) (by omega) (by omega)).mono ?_
        rintro r w2 ⟨rfl, rfl⟩
        obtain ⟨t, ht⟩ : ∃ t : Nat, z % ((n : Int) - (p : Int) + 1) = (t : Int) := ⟨(z % ((n : Int) - (p : Int) + 1)).toNat, by have := Int.emod_nonneg z (show ((n : Int) - (p : Int) + 1) ≠ 0 by omega); omega⟩
        have htn : p + t ≤ n := by have := Int.emod_lt_of_pos z (show 0 < (n : Int) - (p : Int) + 1 by omega); omega
        rw [ht]
        clear ht
        have htk : fnv (fnv fnv0 (xs.take p)) ((xs.drop p).take t) = fnv fnv0 (xs.take (p + t)) := by rw [← fnv_app, List.take_add]
        have HTK := Lib.hid htk
        clear htk
        refine (Decidable.em (c = p)).elim (fun hcp => ?tip) (fun hcp => ?mid)
        case tip =>
          obtain rfl : t = 0 := by omega
          subst hcp
          go_wp2_with fail
          refine (more_any _ _ hlt A 0 0 [] (Bs.nil _ _) (by omega)).mono ?_
          rintro r w3 ⟨rfl, rfl⟩
          go_wp2
          go_round
          case rel => exact ⟨k + 1, c, by omega, by omega, by go_num, by go_num, rfl⟩
          case measure => simp [intOf]; omega
        case mid =>
          have hB := HB.out.part' p t (by omega)
          have HPt := Lib.hid hB
          clear hB
          go_wp2_with fail
          refine (more_any _ _ hlt _ t (c - p) _ HPt.out (by omega)).mono ?_
          rintro r w3 ⟨rfl, rfl⟩
          rw [HTK.out]
          go_wp2
          go_round
          case rel => exact ⟨k + 1, p + t, by omega, by omega, by go_num, by go_num, rfl⟩
          case measure => simp [intOf]; omega
      case done =>
        obtain rfl : k = m := by omega
        have hap : fnv (fnv fnv0 (xs.take p)) (xs.drop p) = fnvS xs := by rw [← fnv_app, List.take_append_drop]; rfl
        have HAP := Lib.hid hap
        clear hap
        have hmo := more_any w1 fnv0 fnv0_lt A n c xs HB.out (by omega)
        have HMo : Hid (Calls Tryd.prog 13 #[.int .u64 14695981039346656037, .slice A n c] w1 fun e w' => e = .returned (.int .u64 (fnvS xs : Int)) ∧ w1 = w') := Lib.hid hmo
        have hsu := sum_any w1 A n c xs HB.out (by omega)
        have HSu := Lib.hid hsu
        clear hmo hsu
        refine (Decidable.em (c = p)).elim (fun hcp => ?tip2) (fun hcp => ?mid2)
        case tip2 =>
          obtain rfl : n = p := by omega
          subst hcp
          have hx : xs.take c = xs := by have := HL.out; exact List.take_of_length_le (by omega)
          have e1 : fnv fnv0 (xs.take c) = fnvS xs := by rw [hx]; rfl
          rw [e1] at hlt ⊢
          generalize fnvS xs = q at *
          go_wp2_with fail
          refine (more_any _ _ hlt A 0 0 [] (Bs.nil _ _) (by omega)).mono ?_
          rintro r w3 ⟨rfl, rfl⟩
          have e2 : fnv q [] = q := rfl
          rw [e2]
          go_wp2_with (first | (go_at_call 11; refine HSu.out.mono ?_; rintro r w4 ⟨rfl, rfl⟩) | (go_at_call 15; refine (start_any _).mono ?_; rintro r w4 ⟨rfl, rfl⟩) | (go_at_call 13; refine HMo.out.mono ?_; rintro r w4 ⟨rfl, rfl⟩))
          go_ret
          exact ⟨rfl, HC.out⟩
        case mid2 =>
          have hB := HB.out.part' p (n - p) (by omega)
          have hta : (xs.drop p).take (n - p) = xs.drop p := List.take_of_length_le (by have := HL.out; simp; omega)
          rw [hta] at hB
          have HPt := Lib.hid hB
          clear hB hta
          go_wp2_with fail
          refine (more_any _ _ hlt _ (n - p) (c - p) _ HPt.out (by omega)).mono ?_
          rintro r w3 ⟨rfl, rfl⟩
          rw [HAP.out]
          generalize fnvS xs = q at *
          go_wp2_with (first | (go_at_call 11; refine HSu.out.mono ?_; rintro r w4 ⟨rfl, rfl⟩) | (go_at_call 15; refine (start_any _).mono ?_; rintro r w4 ⟨rfl, rfl⟩) | (go_at_call 13; refine HMo.out.mono ?_; rintro r w4 ⟨rfl, rfl⟩))
          go_ret
          exact ⟨rfl, HC.out⟩
end Go.Proofs.YtphchggabcbfkaaDoor
