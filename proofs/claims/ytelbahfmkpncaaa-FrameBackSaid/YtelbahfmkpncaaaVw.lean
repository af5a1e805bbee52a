/- The document's writer (tributaryref01): form, put, Num, Raw, Text, Out. -/
import Derived.Test.YtelbahfmkpncaaaWr4
namespace Go.Proofs.Ytelbahfmkpncaaa
open Go.RowKit

theorem nb_char (n k : Nat) (hk : k ≤ 8) (h0 : n < 256 ^ k) (h1 : k = 0 ∨ 256 ^ (k - 1) ≤ n) : k = nb n := by
  have e : ∀ j, 256 ^ j = 2 ^ (8 * j) := fun j => by rw [Nat.pow_mul]
  have h2 := Lib.bitLen_le n (8 * k) (by omega) (by rw [← e]; exact h0)
  unfold nb
  rcases h1 with rfl | h1
  · omega
  · by_cases hk0 : k = 0
    · subst hk0; omega
    · rw [e] at h1
      have hn : n < 2 ^ 64 := by
        have : 256 ^ k ≤ 256 ^ 8 := Nat.pow_le_pow_right (by omega) hk
        have e8 : 256 ^ 8 = 2 ^ 64 := by decide
        omega
      have h3 := Lib.bitLen_shift (8 * (k - 1)) n h1 hn
      have h4 : Lib.bitLen (n / 2 ^ (8 * (k - 1))) ≠ 0 := by
        intro h
        have hp : 1 ≤ n / 2 ^ (8 * (k - 1)) := (Nat.le_div_iff_mul_le (Nat.two_pow_pos _)).2 (by omega)
        have := Lib.bitLen_shift 0 (n / 2 ^ (8 * (k - 1))) (by simpa using hp) (by have := Nat.div_le_self n (2 ^ (8 * (k - 1))); omega)
        have h5 : Lib.bitLen (n / 2 ^ (8 * (k - 1))) = 1 + Lib.bitLen (n / 2 ^ (8 * (k - 1)) / 2) := Lib.bitLen_half _ (by omega) (by have := Nat.div_le_self n (2 ^ (8 * (k - 1))); omega)
        omega
      omega

theorem OwnB.one (w : World) (c : UInt8) (x : Int) (hx : x = (c.toNat : Int)) : OwnB (w.alloc (.cells #[.int .u8 x] 5)) (some ⟨w.heap.size, 0, none⟩) 1 [c] := by
  subst hx
  exact .of (full := [c]) (heap_alloc_new w _) (by simp) (by simp [maxLen]) rfl (by simp)

/-- A byte ahead of bytes. -/
theorem ahead_app {w wr w1 : World} {A' : Option Addr} {c' : Nat} {x : Value} {zs : List UInt8} (own1 : OwnB w1 A' c' zs) (hc : Chg [] w wr) (hg1 : (wr.alloc (.cells #[x] 5)).grownBy w1 (Option.map (·.block) (some (⟨wr.heap.size, 0, none⟩ : Addr))))
    (hA1 : A' = some ⟨wr.heap.size, 0, none⟩ ∨ A' = some ⟨(wr.alloc (.cells #[x] 5)).heap.size, 0, none⟩) : Fresh w w1 A' c' zs := by
  have hs := hc.size
  refine ⟨own1, ?_, (hc.alloc _).grown hg1 (by simp; omega)⟩
  rintro a rfl
  rcases hA1 with h | h <;> cases h <;> simp <;> omega

/-- What is left of a number above its lowest k digits. -/
def up (n k : Nat) : Nat := n / 256 ^ k
theorem up_zero (n : Nat) : up n 0 = n := by simp [up]
theorem up_succ (n k : Nat) : ((up n k : Nat) : Int) / 256 = ((up n (k + 1) : Nat) : Int) := by
  have : up n (k + 1) = up n k / 256 := by unfold up; rw [Nat.pow_succ, Nat.div_div_eq_div_mul]
  rw [this]; omega
theorem up_le (n k : Nat) : up n k ≤ n := Nat.div_le_self _ _
theorem up_pos {n k : Nat} (h : 0 < up n k) : 256 ^ k ≤ n := by
  unfold up at h
  rcases Nat.lt_or_ge n (256 ^ k) with h1 | h1
  · rw [Nat.div_eq_of_lt h1] at h; omega
  · exact h1
theorem up_none {n k : Nat} (h : ¬ 0 < up n k) : n < 256 ^ k := by
  unfold up at h
  rcases Nat.lt_or_ge n (256 ^ k) with h1 | h1
  · exact h1
  · exact absurd ((Nat.le_div_iff_mul_le (Nat.two_pow_pos (8 * k) |> fun h => by rwa [Nat.pow_mul] at h)).2 (by omega)) (by omega : ¬ 1 ≤ n / 256 ^ k)

set_option maxHeartbeats 400000 in
theorem form_any (w : World) (x : Int) (h0 : 0 ≤ x) (h1 : x ≤ 9223372036854775807) :
    Calls Try.prog 61 #[.int .i64 x] w fun r w' => ∃ A c, r = .returned (.slice A (1 + nb x.toNat) c) ∧ Fresh w w' A c (enc x.toNat) := by
  obtain ⟨n, rfl⟩ := Int.eq_ofNat_of_zero_le h0
  have hb := nb_le n (by omega)
  go_enter Try.func61, Try.ntmps61
  go_wp2
  go_loopw [0, 3] (fun v s wr => ∃ (k : Nat) (A : Option Addr) (c : Nat), k ≤ 8 ∧ v = .int .i64 (up n k : Int) ∧ s = .slice A k c ∧ Fresh w wr A c (be k n) ∧ (k = 0 ∨ 256 ^ (k - 1) ≤ n)) (fun v _ _ => (intOf v).toNat)
  case atStart => exact ⟨0, none, 0, by omega, by rw [up_zero], rfl, ⟨OwnB.none_ _, by simp, Chg.refl _ _⟩, .inl rfl⟩
  case round =>
    obtain ⟨k, A, c, hk, rfl, rfl, hF, hlow⟩ := hrel
    obtain ⟨f1, f2, f3⟩ := hF
    have F2 := Lib.hid f2
    have HW := Lib.hid hlow
    clear f2 hlow
    by_cases hz : 0 < up n k
    · have hk8 : k < 8 := by
        rcases Nat.lt_or_ge k 8 with h | h
        · exact h
        · have e8 : k = 8 := by omega
          subst e8
          have := up_pos hz
          have e8 : 256 ^ 8 = 18446744073709551616 := by decide
          omega
      have hle := up_le n k
      have hs := up_succ n k
      have Hs := Lib.hid hs
      clear hs
      go_wp2_with (at_builtin; refine wpList_app rfl _ _ rfl rfl (OwnB.one wr (UInt8.ofNat (up n k)) _ (by rw [UInt8.toNat_ofNat']; omega)) rfl rfl (by have := (f1.reads).chg ((Chg.refl [] wr).alloc (.cells #[.int .u8 (((up n k : Nat) : Int) % 256)] 5)) (by simp); rw [be_len] at this; exact this) (by omega) ?_; intro A' c' w1 own1 hg1 hA1)
      have Hh := Lib.hid (ahead_app own1 f3 hg1 hA1)
      clear own1 hg1 hA1
      go_roundw
      case rel => exact ⟨k + 1, A', c', by omega, by rw [Hs.out], by rw [Nat.add_comm], ⟨Hh.out.1, Hh.out.2.1, Hh.out.2.2⟩, .inr (by simpa using up_pos hz)⟩
      case measure =>
        have h := Hs.out
        simp only [intOf]
        omega
    · go_wp2_with (at_builtin; refine wpList_app rfl _ _ rfl rfl (OwnB.one wr (UInt8.ofNat k) _ (u8_of _ _ rfl (by omega))) rfl rfl (by have := (f1.reads).chg ((Chg.refl [] wr).alloc (.cells #[.int .u8 (k : Int)] 5)) (by simp); rw [be_len] at this; exact this) (by omega) ?_; intro A' c' w1 own1 hg1 hA1)
      go_ret
      have hk' : k = nb n := nb_char n k hk (up_none hz) HW.out
      subst hk'
      exact ⟨A', c', rfl, ahead_app own1 f3 hg1 hA1⟩
end Go.Proofs.Ytelbahfmkpncaaa
