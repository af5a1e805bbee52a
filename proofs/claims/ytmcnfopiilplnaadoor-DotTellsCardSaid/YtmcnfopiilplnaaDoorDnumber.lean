/- The document's number. -/
import Derived.Test.YtmcnfopiilplnaaDoorDparse
namespace Go.Proofs.YtmcnfopiilplnaaDoor
open Go.RowKit Go.Lib
set_option linter.unusedSimpArgs false
set_option linter.unusedVariables false

theorem take_snoc_ (s : ByteArray) (k : Nat) (h : k < s.size) : s.data.toList.take (k + 1) = s.data.toList.take k ++ [s[k]] := by
  rw [List.take_succ_eq_append_getElem (by simpa using h)]; rfl
theorem refN_odd {l : List UInt8} (h : l.all isDig = false) : refN l = 0 := by
  unfold refN
  split
  · rfl
  · rw [if_neg (by simp [h])]
theorem valL_small : ∀ (l : List UInt8), l.all isDig = true → valL l < 10 ^ l.length := by
  refine snoc_ind (fun _ => by simp [valL]) ?_
  intro l c ih h
  rw [List.all_append, Bool.and_eq_true] at h
  have h1 := ih h.1
  have h2 : 48 ≤ c.toNat ∧ c.toNat ≤ 57 := by simpa [isDig] using h.2
  rw [valL_snoc, List.length_append, List.length_singleton, Nat.pow_succ]
  omega
theorem pow_le_10 {k : Nat} (h : k ≤ 10) : 10 ^ k ≤ 10000000000 := by
  have := Nat.pow_le_pow_right (n := 10) (by omega) h
  simpa using this
set_option maxHeartbeats 1000000 in
theorem hnumber_loop (w : World) (s : ByteArray) (h0 : 0 < s.size) (h10 : s.size ≤ 10) (hz : ((s[0].toNat : Int) == 48) = false) (R : Nat) (hR : R = refN s.data.toList) :
    Calls Tryd.prog 43 #[.string s] w fun e w' => e = .returned (.int .i64 (R : Int)) ∧ w = w' := by
  have hd48 : s.data.toList.head? ≠ some 48 := by
    intro h
    rw [List.head?_eq_getElem?, List.getElem?_eq_getElem (by rw [Array.length_toList]; exact h0)] at h
    have h2 : s[0] = 48 := Option.some.inj h
    rw [h2] at hz
    exact absurd hz (by decide)
  have HR := Lib.hid (And.intro hR hd48)
  clear hR hd48
  go_enter Tryd.func43, Tryd.ntmps43
  go_wp2
  go_loop [3, 4] (fun n i => ∃ k : Nat, k ≤ s.size ∧ i = .int .i64 k ∧ n = .int .i64 (valL (s.data.toList.take k) : Int) ∧ Hid ((s.data.toList.take k).all isDig = true)) (fun _ i => s.size - (RowKit.intOf i).toNat)
  case atStart => exact ⟨0, Nat.zero_le _, rfl, rfl, rfl⟩
  case round =>
    obtain ⟨k, hk, rfl, rfl, HA⟩ := hrel
    have hv := Nat.lt_of_lt_of_le (valL_small _ HA.out) (pow_le_10 (Nat.le_trans (List.length_take_le _ _) (Nat.le_trans hk h10)))
    by_cases hlt : k < s.size
    · have hsn := valL_snoc (s.data.toList.take k) s[k]
      have hts := take_snoc_ s k hlt
      rw [← hts] at hsn
      have HS := Lib.hid hsn
      have HTS := Lib.hid hts
      have hb := s[k].toNat_lt
      clear hsn hts
      generalize valL (s.data.toList.take k) = v at *
      by_cases hd : 48 ≤ s[k].toNat ∧ s[k].toNat ≤ 57
      · have d1 : (48 : Int) ≤ (s[k].toNat : Int) := by omega
        have d2 : (s[k].toNat : Int) ≤ 57 := by omega
        have hall : (s.data.toList.take (k + 1)).all isDig = true := by
          rw [HTS.out, List.all_append, HA.out]
          simp only [List.all_cons, List.all_nil, isDig, Bool.and_true, Bool.true_and]
          exact decide_eq_true hd
        have HD := Lib.hid hd
        have HA2 := Lib.hid hall
        clear hd hall
        go_wp2
        refine ⟨⟨k + 1, by omega, by simp, ?_, HA2⟩, by simp [RowKit.intOf]; omega⟩
        rw [HS.out]
        congr 1
        have := HD.out
        omega
      · have hall : s.data.toList.all isDig = false := by
          refine List.all_eq_false.2 ⟨s[k], List.mem_of_mem_take (i := k + 1) (by rw [HTS.out]; simp), ?_⟩
          simp only [isDig, decide_eq_true_eq]
          exact hd
        have hr0 : R = 0 := by rw [HR.out.1]; exact refN_odd hall
        subst hr0
        clear hall
        by_cases hlo : s[k].toNat < 48
        · have d1 : (s[k].toNat : Int) < 48 := by omega
          clear hd hlo
          go_wp2
          go_ret
          exact ⟨rfl, rfl⟩
        · have d1 : (48 : Int) ≤ (s[k].toNat : Int) := by omega
          have d2 : (57 : Int) < (s[k].toNat : Int) := by omega
          clear hd hlo
          go_wp2
          go_ret
          exact ⟨rfl, rfl⟩
    · obtain rfl : k = s.size := by omega
      have hl : s.data.toList.length = s.size := by rw [Array.length_toList]; rfl
      have hR : R = valL (s.data.toList.take s.size) := by
        have ha := HA.out
        rw [List.take_of_length_le (by omega)] at ha ⊢
        rw [HR.out.1]
        unfold refN
        rw [if_neg (fun h => h.elim (fun h => by omega) (fun h => h.elim (fun h => by omega) (fun h => HR.out.2 h))), if_pos ha]
      rw [← hR]
      clear hR hl hlt
      go_wp2
      go_ret
      exact ⟨rfl, rfl⟩
theorem hnumber_any (w : World) (s : ByteArray) (hs : s.size ≤ 140737488351232) :
    Calls Tryd.prog 43 #[.string s] w fun e w' => e = .returned (.int .i64 (refN s.data.toList : Int)) ∧ w = w' := by
  have hl : s.data.toList.length = s.size := by rw [Array.length_toList]; rfl
  by_cases h0 : s.size < 1
  · have e : refN s.data.toList = 0 := if_pos (.inl (by omega))
    rw [e]
    clear e hl
    obtain h1 : s.size = 0 := by omega
    have h2 : (s.size : Int) < 1 := by omega
    clear h0
    go_enter Tryd.func43, Tryd.ntmps43
    go_wp2
    go_ret
    exact ⟨rfl, rfl⟩
  by_cases h10 : 10 < s.size
  · have e : refN s.data.toList = 0 := if_pos (.inr (.inl (by omega)))
    rw [e]
    have h2 : (1 : Int) ≤ (s.size : Int) := by omega
    have h3 : (10 : Int) < (s.size : Int) := by omega
    clear e hl
    go_enter Tryd.func43, Tryd.ntmps43
    go_wp2
    go_ret
    exact ⟨rfl, rfl⟩
  have hp : 0 < s.size := by omega
  by_cases hz : ((s[0].toNat : Int) == 48) = true
  · have h48 : s.data.toList.head? = some 48 := by
      rw [List.head?_eq_getElem?, List.getElem?_eq_getElem (by rw [Array.length_toList]; exact hp)]
      have h6 : (s[0].toNat : Int) = 48 := by simpa using hz
      have this : s[0] = 48 := UInt8.toNat_inj.1 (show s[0].toNat = 48 by omega)
      exact congrArg some this
    have e : refN s.data.toList = 0 := if_pos (.inr (.inr h48))
    rw [e]
    have h2 : (1 : Int) ≤ (s.size : Int) := by omega
    have h3 : (s.size : Int) ≤ 10 := by omega
    clear e hl h48 h0 h10
    go_enter Tryd.func43, Tryd.ntmps43
    go_wp2
    go_ret
    exact ⟨rfl, rfl⟩
  · exact hnumber_loop w s hp (by omega) (by simpa using hz) _ rfl
end Go.Proofs.YtmcnfopiilplnaaDoor
