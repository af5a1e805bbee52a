/- PrintBack: a fingerprint's text is read as it. -/
import Derived.Test.YtphchggabcbfkaaDoorPknown
namespace Go.Proofs.YtphchggabcbfkaaDoor
open Go.RowKit
set_option linter.unusedSimpArgs false
set_option linter.unusedVariables false

/-- The text of a number is read as the number. -/
theorem parse_text (w : World) (u : Nat) (hu : u < 18446744073709551616) : Calls Tryd.prog 20 #[.string (strOf (hexs 16 u))] w fun e w' => e = .returned (.tuple #[.int .u64 (u : Int), .agg #[.int .i64 0, .int .i64 0]]) ∧ Chg [] w w' := by
  have h := parse_any w (strOf (hexs 16 u)) (by rw [strOf_size, hexs_len]; decide)
  have hg := hexs_good 16 u
  have hb : badAt (hexs 16 u) = 16 := by
    have := badAt_none (hexs 16 u) (fun j hj => by
      have hm : (hexs 16 u).getD j 0 ∈ hexs 16 u := by
        rw [List.getD_eq_getElem?_getD, List.getElem?_eq_getElem hj]
        exact List.getElem_mem _
      have := hg _ hm
      unfold bad
      exact decide_eq_false (by omega))
    rw [this, hexs_len]
  have e : parseR (strOf (hexs 16 u)).data.toList = ((u : Int), 0, 0) := by
    rw [strOf_data, parseR_ok (hexs_len 16 u) (by omega), unhexs_hexs 16 u (by omega)]
  rw [e] at h
  exact h
theorem parseR_good {xs : List UInt8} (h : (parseR xs).2.1 = 0) : xs.length = 16 ∧ (parseR xs).1 = (unhexs xs : Int) ∧ unhexs xs < 18446744073709551616 ∧ hexs 16 (unhexs xs) = xs := by
  unfold parseR at h ⊢
  split at h
  · simp at h
  · split at h
    · simp at h
    · split at h
      · simp at h
      · rename_i h1 h2 h3
        have hl : xs.length = 16 := by omega
        have hb := badAt_le xs
        have hg := good_of xs (by omega)
        have hlt := unhexs_lt xs hg
        rw [hl] at hlt
        refine ⟨hl, by rw [if_neg h1, if_neg h2, if_neg h3], by omega, ?_⟩
        have := hexs_unhexs xs hg
        rwa [hl] at this
theorem parseR_fault {xs : List UInt8} (h : (parseR xs).2.1 ≠ 0) : (parseR xs).1 = 0 ∧ 0 ≤ (parseR xs).2.2 ∧ (parseR xs).2.2 ≤ xs.length := by
  unfold parseR at h ⊢
  split
  · exact ⟨rfl, by simp, by simp⟩
  · split
    · exact ⟨rfl, by simp, by simp; omega⟩
    · split
      · have := badAt_le xs
        exact ⟨rfl, by simp, by simp; omega⟩
      · rename_i h1 h2 h3
        rw [if_neg h1, if_neg h2, if_neg h3] at h
        simp at h
set_option maxRecDepth 100000 in
set_option maxHeartbeats 2000000 in
theorem back_true (w : World) (hT : Tab w) (n : Int) (h0 : 0 ≤ n) (h1 : n ≤ 18446744073709551615) (s : ByteArray) (hs : s.size ≤ 140737488351232) :
    Calls Tryd.prog 8 #[.int .u64 n, .string s] w fun r w' => r = .returned (.bool true) ∧ Chg [] w w' := by
  have HT := Lib.hid hT
  clear hT
  obtain ⟨u, rfl⟩ : ∃ u : Nat, n = (u : Int) := ⟨n.toNat, by omega⟩
  have hu : u < 18446744073709551616 := by omega
  have z16 : (strOf (hexs 16 u)).size = 16 := by rw [strOf_size, hexs_len]
  have HU := Lib.hid hu
  go_enter Tryd.func8, Tryd.ntmps8
  go_wp2_with fail
  refine (known_true _ HT.out).mono ?_
  rintro r w1 ⟨rfl, c1⟩
  have C1 := Lib.hid c1
  clear c1
  go_wp2_with fail
  refine (text_ok _ u HU.out (HT.out.chg C1.out)).mono ?_
  rintro r w2 ⟨rfl, c2⟩
  have C2 := Lib.hid (C1.out.trans c2)
  clear c2 C1
  go_wp2_with fail
  refine (parse_text _ u HU.out).mono ?_
  rintro r w3 ⟨rfl, c3⟩
  have C3 := Lib.hid ((C2.out.trans c3).alloc (.cells #[.int .i64 0, .int .i64 0] 35))
  clear c3 C2
  refine (Decidable.em (100 < s.size)).elim (fun hp => ?big) (fun hp => ?small)
  case big =>
    go_wp2
    go_ret
    exact ⟨rfl, C3.out⟩
  case small =>
    go_wp2_with fail
    refine (parse_any _ s hs).mono ?_
    rintro r w4 ⟨rfl, c4⟩
    obtain ⟨v, e, a, hr⟩ : ∃ v e a, parseR s.data.toList = (v, e, a) := ⟨_, _, _, rfl⟩
    have hl : s.data.toList.length = s.size := by rw [Array.length_toList]; rfl
    have C4 := Lib.hid ((C3.out.trans c4).alloc (.cells #[.int .i64 e, .int .i64 a] 35))
    clear c4 C3
    rw [hr]
    simp only [faultV]
    refine (Decidable.em (e = 0)).elim (fun he => ?fine) (fun he => ?fault)
    case fine =>
      subst he
      have hg := parseR_good (xs := s.data.toList) (by rw [hr])
      rw [hr] at hg
      obtain ⟨g1, rfl, g3, g4⟩ := hg
      go_wp2_with fail
      refine (text_ok _ _ g3 (HT.out.chg C4.out)).mono ?_
      rintro r w5 ⟨rfl, c5⟩
      have C5 := Lib.hid (C4.out.trans c5)
      clear c5
      rw [g4]
      have hse : strOf s.data.toList = s := by
        apply ByteArray.ext
        simp [strOf]
      rw [hse]
      go_wp2
      go_ret
      exact ⟨rfl, C5.out⟩
    case fault =>
      have hg := parseR_fault (xs := s.data.toList) (by rw [hr]; exact he)
      rw [hr] at hg
      obtain ⟨rfl, g2, g3⟩ := hg
      simp only at g2 g3
      rw [hl] at g3
      have e1 : (e == 0) = false := by simpa using he
      go_wp2
      go_ret
      exact ⟨rfl, C4.out⟩
end Go.Proofs.YtphchggabcbfkaaDoor
