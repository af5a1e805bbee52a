/- The fingerprint: through, More, Sum; the document's. -/
import Derived.Test.YtphchggabcbfkaaDoorBase
namespace Go.Proofs.YtphchggabcbfkaaDoor
open Go.RowKit
set_option linter.unusedSimpArgs false

/-- One byte more. -/
def fnv1 (s : Nat) (x : UInt8) : Nat := ((s ^^^ x.toNat) * 1099511628211) % 18446744073709551616
def fnv (s : Nat) (xs : List UInt8) : Nat := xs.foldl fnv1 s
def fnv0 : Nat := 14695981039346656037
/-- The fingerprint. -/
def fnvS (xs : List UInt8) : Nat := fnv fnv0 xs
theorem fnv1_lt (s : Nat) (x : UInt8) : fnv1 s x < 18446744073709551616 := Nat.mod_lt _ (by decide)
theorem fnv_lt (s : Nat) (xs : List UInt8) (h : s < 18446744073709551616) : fnv s xs < 18446744073709551616 := by
  induction xs generalizing s with
  | nil => exact h
  | cons x xs ih => exact ih _ (fnv1_lt s x)
theorem foldl_snoc {α β : Type} (f : α → β → α) (s : α) (xs : List β) (x : β) : (xs ++ [x]).foldl f s = f (xs.foldl f s) x := by simp
theorem fnv_snoc (s : Nat) (xs : List UInt8) (x : UInt8) : fnv s (xs ++ [x]) = fnv1 (fnv s xs) x := foldl_snoc fnv1 s xs x
theorem fnv_take (s : Nat) (xs : List UInt8) (k : Nat) (h : k < xs.length) : fnv s (xs.take (k + 1)) = fnv1 (fnv s (xs.take k)) (xs.getD k 0) := by
  have : xs.take (k + 1) = xs.take k ++ [xs.getD k 0] := by
    rw [List.take_succ_eq_append_getElem h]
    simp [List.getD, h]
  rw [this, fnv_snoc]
theorem fnv_step_any (s C : Nat) (x : UInt8) (h : s < 18446744073709551616) : IntKind.u64.wrap (bits .xor .u64 (s : Int) (IntKind.u64.wrap (x.toNat : Int)) * (C : Int)) = ((((s ^^^ x.toNat) * C) % 18446744073709551616 : Nat) : Int) := by
  have hx := x.toNat_lt
  have e : IntKind.u64.wrap (x.toNat : Int) = (x.toNat : Int) := by rw [IntKind.wrap_u64]; omega
  rw [e, bits_xor_u64_nat s x.toNat h (by omega), IntKind.wrap_u64]
  generalize s ^^^ x.toNat = y
  rw [← Int.natCast_mul]
  generalize y * C = z
  omega
theorem fnv_step (s : Nat) (x : UInt8) (h : s < 18446744073709551616) : IntKind.u64.wrap (bits .xor .u64 (s : Int) (IntKind.u64.wrap (x.toNat : Int)) * 1099511628211) = ((fnv1 s x : Nat) : Int) := fnv_step_any s 1099511628211 x h

theorem Bs.line {w : World} {A : Option Addr} {n : Nat} {xs : List UInt8} (h : Bs w A n xs) (h0 : 0 < xs.length) : ∃ g o, A = some ⟨g, o, none⟩ ∧ ∀ j, j < xs.length → w.cell? ⟨g, o + j, none⟩ = some (.int .u8 ((xs.getD j 0).toNat : Int)) := by
  obtain ⟨a, rfl, hc⟩ := h.cells 0 _ (List.getElem?_eq_getElem h0)
  have hsp := World.cell?_spot hc
  obtain ⟨g, o, sp⟩ := a
  have hsp : sp = none := by simpa [Addr.add] using hsp
  subst hsp
  refine ⟨g, o, rfl, fun j hj => ?_⟩
  obtain ⟨a', e, hcj⟩ := h.cells j _ (List.getElem?_eq_getElem hj)
  cases e
  rw [add_lit] at hcj
  rw [hcj]
  simp [bv, List.getD, hj]

set_option maxHeartbeats 1000000 in
theorem through_any (w : World) (s : Nat) (hs : s < 18446744073709551616) (A : Option Addr) (n c : Nat) (xs : List UInt8) (h : Bs w A n xs) (hn : n ≤ 140737488351232) :
    Calls Tryd.prog 26 #[.int .u64 (s : Int), .slice A n c] w fun e w' => e = .returned (.int .u64 (fnv s xs : Int)) ∧ w = w' := by
  have hl := h.len
  subst hl
  have HB := Lib.hid h
  have HS := Lib.hid hs
  clear h hs
  go_enter Tryd.func26, Tryd.ntmps26
  go_wp2
  go_loop [0, 9] (fun v i => ∃ k : Nat, k ≤ xs.length ∧ i = .int .i64 k ∧ v = .int .u64 (fnv s (xs.take k) : Int)) (fun _ i => xs.length - (intOf i).toNat)
  case atStart => exact ⟨0, by omega, rfl, rfl⟩
  case round =>
    obtain ⟨k, hk, rfl, rfl⟩ := hrel
    by_cases hlt : k < xs.length
    · obtain ⟨g, o, rfl, hc⟩ := HB.out.line (by omega)
      have hck := hc k hlt
      have hst := fnv_step (fnv s (xs.take k)) (xs.getD k 0) (fnv_lt _ _ HS.out)
      have ht := fnv_take s xs k hlt
      have HT := Lib.hid ht
      have HSt := Lib.hid hst
      clear hc ht hst
      generalize fnv s (xs.take k) = f at *
      generalize xs.getD k 0 = x at *
      go_wp2
      go_round
      case rel => exact ⟨k + 1, by omega, by go_num, by rw [HSt.out, HT.out]⟩
      case measure => simp [intOf]; omega
    · go_wp2
      go_ret
      have : k = xs.length := by omega
      subst this
      exact ⟨by rw [List.take_length]; rfl, rfl⟩
end Go.Proofs.YtphchggabcbfkaaDoor
