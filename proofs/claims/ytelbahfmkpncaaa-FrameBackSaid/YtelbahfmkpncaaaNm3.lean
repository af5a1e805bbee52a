/- The reader's number where digits follow. -/
import Derived.Test.YtelbahfmkpncaaaNm2
namespace Go.Proofs.Ytelbahfmkpncaaa
open Go.RowKit

theorem val_snoc (l : List UInt8) (c : UInt8) : val (l ++ [c]) = val l * 256 + c.toNat := by simp [val, List.foldl_append]
theorem val_nil : val [] = 0 := rfl
theorem val_lt : ∀ (k : Nat) (l : List UInt8), l.length = k → val l < 256 ^ k
  | 0, l, h => by
    have : l = [] := List.eq_nil_of_length_eq_zero h
    subst this; decide
  | k + 1, l, h => by
    obtain ⟨c, hc⟩ : ∃ c, l = l.take k ++ [c] := ⟨l[k]'(by omega), by rw [List.take_append_getElem]; exact (List.take_of_length_le (by omega)).symm⟩
    have hk := val_lt k (l.take k) (by simp; omega)
    have hb := c.toNat_lt
    rw [hc, val_snoc, Nat.pow_succ]
    omega
theorem take_more (l : List UInt8) (j : Nat) (h : j < l.length) : l.take (j + 1) = l.take j ++ [l.getD j 0] := by
  rw [List.take_succ_eq_append_getElem h]
  simp [List.getD, h]

/-- The number of the first j bytes behind the place. -/
def dv (xs : List UInt8) (p j : Nat) : Nat := val ((xs.drop (p + 1)).take j)
theorem dv_zero (xs : List UInt8) (p : Nat) : dv xs p 0 = 0 := by simp [dv, val_nil]
/-- The byte at a place. -/
def bt (xs : List UInt8) (j : Nat) : Nat := (xs.getD j 0).toNat
theorem bt_lt (xs : List UInt8) (j : Nat) : bt xs j < 256 := (xs.getD j 0).toNat_lt
theorem dv_succ (xs : List UInt8) (p j : Nat) (h : p + 1 + j < xs.length) : dv xs p (j + 1) = dv xs p j * 256 + bt xs (p + 1 + j) := by
  unfold dv bt
  rw [take_more _ _ (by simp; omega), val_snoc]
  congr 2
  simp [List.getD, List.getElem?_drop]
theorem dv_lt (xs : List UInt8) (p j : Nat) (h : p + 1 + j ≤ xs.length) : dv xs p j < 256 ^ j := val_lt j _ (by simp; omega)
theorem dv_lt8 (xs : List UInt8) (p j : Nat) (h : p + 1 + j ≤ xs.length) (hj : j ≤ 8) : dv xs p j ≤ 18446744073709551615 := by
  have h1 := dv_lt xs p j h
  have h2 : 256 ^ j ≤ 256 ^ 8 := Nat.pow_le_pow_right (by omega) hj
  have h3 : 256 ^ 8 = 18446744073709551616 := by decide
  omega

theorem or_join (a b : Nat) (h : a * 256 + b ≤ 18446744073709551615) (hb : b < 256) : bits .or .u64 ((a : Int) * 256) (b : Int) = ((a * 256 + b : Nat) : Int) := by
  rw [show (a : Int) * 256 = ((a * 256 : Nat) : Int) by omega, u64_or_nat _ _ (by omega) (by omega), nat_join 8 _ _ (by omega) (by omega)]

set_option maxHeartbeats 1000000 in
theorem num_digits (w : World) (b g : Nat) (xs : List UInt8) (p : Nat) (fa low high : Int) (h : Rdr w b g xs p 0 fa) (hl : xs.length ≤ 140737488351232) (x : UInt8) (hx : xs[p]? = some x) (h8 : (x.toNat : Int) ≤ 8) (hs : x.toNat ≤ xs.length - (p + 1)) (h0 : 0 < x.toNat) (hz : bt xs (p + 1) ≠ 0)
    (hv : dv xs p x.toNat ≤ 4611686018427387903) (hr : low ≤ dv xs p x.toNat) (hr2 : dv xs p x.toNat ≤ high) :
    Calls Try.prog 64 #[.pointer (some ⟨b, 0, none⟩), .int .i64 low, .int .i64 high] w fun e w' => e = .returned (.tuple #[.int .i64 (dv xs p x.toNat), .int .i64 ((p : Int) + 1 + x.toNat)]) ∧ Chg [] w w' := by
  obtain ⟨A, c, h1, h2, h3⟩ := h
  have hp : p < xs.length := (List.getElem?_eq_some_iff.1 hx).1
  have hcap := h2.cap
  unfold maxLen at hcap
  have hne : ((p : Int) == xs.length) = false := by simp; omega
  have hcc : ¬ c = p + 1 := by omega
  obtain ⟨rfl, hc⟩ := h2.at_ h3 hx
  have hcell : ∀ j, p + 1 + j < xs.length → w.cell? ⟨g, p + 1 + j, none⟩ = some (.int .u8 (bt xs (p + 1 + j) : Int)) := fun j hj => by
    have e : xs[p + 1 + j]? = some (xs.getD (p + 1 + j) 0) := by simp [List.getD, hj]
    exact (h2.at_ h3 e).2
  have hc2 := hcell 0 (by omega)
  rw [Nat.add_zero] at hc2
  have hz0 : ((bt xs (p + 1) : Int) == 0) = false := by simp only [beq_eq_false_iff_ne, ne_eq]; omega
  have k1 := cell_of h1 1
  have k2 := cell_of h1 2
  simp only [List.getElem?_toArray, List.getElem?_cons_zero, List.getElem?_cons_succ] at k1 k2
  have H := Lib.hid h1
  have Hx := Lib.hid hx
  have Hc := Lib.hid hcell
  clear h1 h3 hx hz hcell
  go_enter Try.func64, Try.ntmps64
  go_wp2
  refine wp_scope_fwd 0 rfl ?_
  go_wp2
  iterate 6 (go_quiet (fail); go_wp2)
  clear hc2 hz0
  go_loop [8, 95] (fun n i => ∃ j : Nat, j ≤ x.toNat ∧ i = .int .i64 j ∧ n = .int .u64 (dv xs p j)) (fun _ i => x.toNat - (intOf i).toNat)
  case atStart => exact ⟨0, by omega, rfl, by rw [dv_zero]; rfl⟩
  case round =>
    obtain ⟨j, hj, rfl, rfl⟩ := hrel
    by_cases hlt : j < x.toNat
    · have hcj := Hc.out j (by omega)
      have hbj := dv_lt8 xs p (j + 1) (by omega) (by omega)
      rw [dv_succ xs p j (by omega)] at hbj
      have hbb := bt_lt xs (p + 1 + j)
      go_wp2
      go_round
      case rel => exact ⟨j + 1, by omega, by go_num, by rw [or_join _ _ hbj hbb, ← dv_succ xs p j (by omega)]⟩
      case measure => simp [intOf]; omega
    · obtain rfl : j = x.toNat := by omega
      go_wp2
      go_quiet (fail)
      go_wp2
      simp only [Exit.jump]
      go_ret2
      exact ⟨rfl, ((Chg.refl _ _).drewN _).drewN _⟩
set_option maxHeartbeats 1000000 in
theorem num_digits_out (w : World) (b g : Nat) (xs : List UInt8) (p : Nat) (fa low high : Int) (h : Rdr w b g xs p 0 fa) (hl : xs.length ≤ 140737488351232) (x : UInt8) (hx : xs[p]? = some x) (h8 : (x.toNat : Int) ≤ 8) (hs : x.toNat ≤ xs.length - (p + 1)) (h0 : 0 < x.toNat) (hz : bt xs (p + 1) ≠ 0)
    (hv : 4611686018427387903 < dv xs p x.toNat ∨ dv xs p x.toNat ≤ 4611686018427387903 ∧ (dv xs p x.toNat : Int) < low ∨ dv xs p x.toNat ≤ 4611686018427387903 ∧ low ≤ dv xs p x.toNat ∧ high < dv xs p x.toNat) :
    Calls Try.prog 64 #[.pointer (some ⟨b, 0, none⟩), .int .i64 low, .int .i64 high] w fun e w' => e = .returned (.tuple #[.int .i64 0, .int .i64 p]) ∧ Failed w w' b g xs p 5 p := by
  obtain ⟨A, c, h1, h2, h3⟩ := h
  have hp : p < xs.length := (List.getElem?_eq_some_iff.1 hx).1
  have hcap := h2.cap
  unfold maxLen at hcap
  have hne : ((p : Int) == xs.length) = false := by simp; omega
  have hcc : ¬ c = p + 1 := by omega
  obtain ⟨rfl, hc⟩ := h2.at_ h3 hx
  have hcell : ∀ j, p + 1 + j < xs.length → w.cell? ⟨g, p + 1 + j, none⟩ = some (.int .u8 (bt xs (p + 1 + j) : Int)) := fun j hj => by
    have e : xs[p + 1 + j]? = some (xs.getD (p + 1 + j) 0) := by simp [List.getD, hj]
    exact (h2.at_ h3 e).2
  have hc2 := hcell 0 (by omega)
  rw [Nat.add_zero] at hc2
  have hz0 : ((bt xs (p + 1) : Int) == 0) = false := by simp only [beq_eq_false_iff_ne, ne_eq]; omega
  have k1 := cell_of h1 1
  have k2 := cell_of h1 2
  have k3 := cell_of h1 3
  have k4 := cell_of h1 4
  have f3 := free_of h1 3
  have f4 := free_of h1 4
  simp only [List.getElem?_toArray, List.getElem?_cons_zero, List.getElem?_cons_succ] at k1 k2 k3 k4
  have H := Lib.hid h1
  have Hx := Lib.hid hx
  have Hc := Lib.hid hcell
  clear h1 h3 hx hz hcell
  go_enter Try.func64, Try.ntmps64
  go_wp2
  refine wp_scope_fwd 0 rfl ?_
  go_wp2
  iterate 6 (go_quiet (fail); go_wp2)
  clear hc2 hz0
  go_loop [8, 95] (fun n i => ∃ j : Nat, j ≤ x.toNat ∧ i = .int .i64 j ∧ n = .int .u64 (dv xs p j)) (fun _ i => x.toNat - (intOf i).toNat)
  case atStart => exact ⟨0, by omega, rfl, by rw [dv_zero]; rfl⟩
  case round =>
    obtain ⟨j, hj, rfl, rfl⟩ := hrel
    by_cases hlt : j < x.toNat
    · have hcj := Hc.out j (by omega)
      have hbj := dv_lt8 xs p (j + 1) (by omega) (by omega)
      rw [dv_succ xs p j (by omega)] at hbj
      have hbb := bt_lt xs (p + 1 + j)
      go_wp2
      go_round
      case rel => exact ⟨j + 1, by omega, by go_num, by rw [or_join _ _ hbj hbb, ← dv_succ xs p j (by omega)]⟩
      case measure => simp [intOf]; omega
    · obtain rfl : j = x.toNat := by omega
      rcases hv with hv | ⟨hv, hv2⟩ | ⟨hv, hv2, hv3⟩
      all_goals
        go_wp2
        go_quiet (fail)
        go_wp2
        go_step3
        refine And.intro rfl ?_
        show Code.wp _ _ _ _ _
        go_wp2
        go_quiet (fail)
        go_wp2
        simp only [Exit.jump]
        go_ret2
        exact ⟨rfl, failed_of H.out h2 (.inr rfl) _ _ _ _⟩
end Go.Proofs.Ytelbahfmkpncaaa
