/- math/bits.Len64 and wire.width: how many bytes a number takes. -/
import Derived.Test.YtgafkphhnlifiaaBase
import Derived.Lib.BitFns
namespace Go.Proofs.Ytgafkphhnlifiaa
open Go.RowKit

theorem tab_get (i : Nat) (h : i < Lib.len8tab.size) : ((Lib.len8tab[i]).toNat : Int) = (Lib.bitLen i : Int) := by
  have hi : i < 256 := by rw [Lib.len8tab_size] at h; exact h
  have e := Lib.len8_of (i : Int) (by omega) (by omega)
  simp only [Lib.len8, Int.toNat_natCast] at e
  rw [← e, ByteArray.getElem?_lt' _ _ h, Option.getD_some]

theorem len_way (k : Nat) (x y : Int) (h0 : 0 ≤ x) (h1 : x ≤ 18446744073709551615) (hy : y = x / (2 ^ k : Nat)) (hk : k = 0 ∨ 1 ≤ y) (h2 : y < 256) (h : y.toNat < Lib.len8tab.size) :
    wrap64 ((k : Int) + wrap64 ((Lib.len8tab[y.toNat]).toNat : Int)) = (Lib.bitLen x.toNat : Int) := by
  have hb := Lib.bitLen_le8' y (by rw [hy]; exact Int.ediv_nonneg h0 (Int.natCast_nonneg _)) (by omega)
  rw [tab_get]
  have e : Lib.bitLen x.toNat = k + Lib.bitLen y.toNat := by
    rcases hk with rfl | hk
    · simp at hy; subst hy; simp
    · have hd : y.toNat = x.toNat / 2 ^ k := by
        subst hy
        obtain ⟨n, rfl⟩ := Int.eq_ofNat_of_zero_le h0
        rw [← Int.natCast_ediv]; exact Int.toNat_natCast _
      have hle : 2 ^ k ≤ x.toNat := by
        rcases Nat.lt_or_ge x.toNat (2 ^ k) with hlt | hge
        · rw [Nat.div_eq_of_lt hlt] at hd; omega
        · exact hge
      rw [hd]
      exact Lib.bitLen_shift k x.toNat hle (by omega)
  have hx := Lib.bitLen_le x.toNat 64 (by omega) (by omega)
  rw [e] at hx ⊢
  unfold wrap64
  omega

set_option maxHeartbeats 1000000 in
set_option maxRecDepth 100000 in
theorem len64_any (x : Int) (w : World) (h0 : 0 ≤ x) (h1 : x ≤ 18446744073709551615) :
    Calls Try.prog 92 #[.int .u64 x] w fun e w' => e = .returned (.int .i64 (Lib.bitLen x.toNat)) ∧ w = w' := by
  have hz : Lib.len8tab.size = 256 := by decide +kernel
  go_enter Try.func92, Try.ntmps92
  go_wp2
  all_goals (go_ret; refine ⟨congrArg Ending.returned (congrArg (Value.int IntKind.i64) ?_), rfl⟩)
  · exact len_way 56 x _ h0 h1 (by omega) (by omega) (by omega) _
  · exact len_way 48 x _ h0 h1 (by omega) (by omega) (by omega) _
  · exact len_way 40 x _ h0 h1 (by omega) (by omega) (by omega) _
  · exact len_way 32 x _ h0 h1 (by omega) (by omega) (by omega) _
  · exact len_way 24 x _ h0 h1 (by omega) (by omega) (by omega) _
  · exact len_way 16 x _ h0 h1 (by omega) (by omega) (by omega) _
  · exact len_way 8 x _ h0 h1 (by omega) (by omega) (by omega) _
  · have e := len_way 0 x _ h0 h1 (by omega) (by omega) (by omega) (by omega : x.toNat < Lib.len8tab.size)
    simpa using e
/-- How many bytes follow the one that counts them. -/
def nb (n : Nat) : Nat := (Lib.bitLen n + 7) / 8

theorem nb_le (n : Nat) (h : n < 18446744073709551616) : nb n ≤ 8 := by
  have := Lib.bitLen_le n 64 (by omega) (by omega)
  unfold nb; omega

/-- The lowest k digits to the base 256, the highest first. -/
def be : Nat → Nat → List UInt8
  | 0, _ => []
  | k + 1, n => UInt8.ofNat (n / 256 ^ k) :: be k n
theorem be_len : ∀ (k n : Nat), (be k n).length = k
  | 0, _ => rfl
  | k + 1, n => by simp [be, be_len k n]
/-- A number's form. -/
def enc (n : Nat) : List UInt8 := UInt8.ofNat (nb n) :: be (nb n) n
theorem enc_len (n : Nat) : (enc n).length = 1 + nb n := by simp [enc, be_len]; omega

end Go.Proofs.Ytgafkphhnlifiaa
