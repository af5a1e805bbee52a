/- Topologies: the law's does and has, Pick. -/
import Derived.Test.YtleioiihoplmaaaTomath
import Derived.Test.YtleioiihoplmaaaTochlaw
import Derived.Deep.Cut
namespace Go.Proofs.Ytleioiihoplmaaa
open Go.RowKit
set_option linter.unusedSimpArgs false
set_option linter.unusedVariables false



theorem pick_t (x n : Int) (hn : 1 ≤ n) : x.tmod n = x % n ∨ x.tmod n = x % n - n := by
  rw [Int.tmod_eq_emod]
  split
  · left; omega
  · right; omega
theorem pick_math (x n : Int) (hn : 1 ≤ n) : (x.tmod n + n) % n = x % n := by
  rcases pick_t x n hn with h | h
  · rw [h, Int.add_emod_right, Int.emod_emod]
  · rw [h, show x % n - n + n = x % n by omega, Int.emod_emod]

set_option maxHeartbeats 400000 in
theorem pick_any (w : World) (x n : Int) (hn : 1 ≤ n) (h2 : n ≤ 4611686018427387904) : Calls Try.prog 33 #[.int .i64 x, .int .i64 n] w fun e w' => e = .returned (.int .i64 (x % n)) ∧ w = w' := by
  rw [← pick_math x n hn]
  have h0 := Int.emod_nonneg x (show n ≠ 0 by omega)
  have h1 := Int.emod_lt_of_pos x (show 0 < n by omega)
  have b1 : -n ≤ x.tmod n := by rcases pick_t x n hn with h | h <;> omega
  have b2 : x.tmod n < n := by rcases pick_t x n hn with h | h <;> omega
  clear h0 h1
  go_enter Try.func33, Try.ntmps33
  go_wp2
  go_ret
  exact ⟨rfl, rfl⟩

set_option maxHeartbeats 1000000 in
theorem tohasl_any (w : World) (A : Option Addr) (c : Nat) (xs : List Int) (x : Int) (h : RdK intTy w A xs.length xs) (hn : xs.length ≤ 140737488351232) :
    Calls Try.prog 32 #[.slice A xs.length c, .int .i64 x] w fun e w' => e = .returned (.bool (xs.contains x)) ∧ w' = w := by
  have HA := Lib.hid h
  clear h
  obtain ⟨R, hR⟩ : ∃ R, xs.contains x = R := ⟨_, rfl⟩
  rw [hR]
  have HR := Lib.hid hR
  clear hR
  go_enter Try.func32, Try.ntmps32
  go_wp2
  go_loopw [5] (fun v3 wr => ∃ k : Nat, k ≤ xs.length ∧ v3 = .int .i64 (k : Int) ∧ Hid ((xs.take k).contains x = false) ∧ wr = w) (fun v3 _ => xs.length - (RowKit.intOf v3).toNat)
  case atStart => exact ⟨0, Nat.zero_le _, rfl, Lib.hid rfl, rfl⟩
  case round =>
    obtain ⟨k, hk, rfl, HC, rfl⟩ := hrel
    have k1 : IntKind.i64.wrap ((k : Int) + 1) = (k : Int) + 1 := IntWalk.i64_in _ (by omega)
    have i0 : (0 : Int) ≤ (k : Int) := by omega
    by_cases hlt : k < xs.length
    · have i1 : (k : Int) < (xs.length : Int) := by omega
      obtain ⟨g, o, eA, _⟩ := HA.out.line (by omega)
      subst eA
      have ex := List.getElem?_eq_getElem hlt
      have z := intCells HA.out ex
      have HT := Lib.hid (List.take_succ_eq_append_getElem hlt)
      have HM := Lib.hid (List.getElem_mem hlt)
      generalize xs[k] = y at *
      clear ex
      refine (Decidable.em (y = x)).elim (fun hxy => ?EQ) (fun hxy => ?NE)
      case EQ =>
        subst hxy
        have hq : (y == y) = true := by simp
        have : R = true := by rw [← HR.out]; simp [HM.out]
        subst this
        go_wp2
        go_ret
        exact ⟨rfl, rfl⟩
      case NE =>
        have hq : (y == x) = false := by simpa using hxy
        have HN := Lib.hid hxy
        go_wp2
        exact ⟨⟨k + 1, by omega, by simp, Lib.hid (by rw [HT.out]; have := HC.out; simp at this ⊢; exact ⟨this, fun e => HN.out e.symm⟩), trivial⟩, by simp [RowKit.intOf]; omega⟩
    · obtain rfl : k = xs.length := by omega
      have : R = false := by rw [← HR.out]; have := HC.out; rwa [List.take_length] at this
      subst this
      go_wp2
      go_ret
      exact ⟨rfl, rfl⟩

set_option maxRecDepth 100000 in
set_option maxHeartbeats 4000000 in
theorem topodoes_any (w : World) (A : Option Addr) (c : Nat) (t : List MemT) (x : ActT) (h : RdK memTy w A t.length t) (hA : ∀ a, A = some a → a.block < w.heap.size) (hN : t.length ≤ 100000000) :
    Calls Try.prog 31 #[.slice A t.length c, .agg #[.int .i64 x.1, .int .i64 x.2.1, .int .i64 x.2.2.1, .int .i64 x.2.2.2]] w fun e w' => ∃ B d, e = .returned (.tuple #[.slice B (doesT t x).1.length d, .int .i64 (doesT t x).2]) ∧ RdK memTy w' B (doesT t x).1.length (doesT t x).1 ∧ (∀ a, B = some a → a.block < w'.heap.size) ∧ Chg [] w w' := by
  obtain ⟨k, kind, n, up⟩ := x
  obtain ⟨w1, hw1, c1, b1⟩ := news1 w (.cells #[.int .i64 k, .int .i64 kind, .int .i64 n, .int .i64 up] 48)
  have W1 := Lib.hid hw1
  have C1 := Lib.hid c1
  have H1 := Lib.hid (h.chg c1 (by simp))
  have HA1 := Lib.hid (fun a ha => Nat.lt_of_lt_of_le (hA a ha) c1.size : ∀ a, A = some a → a.block < w1.heap.size)
  have PE := Lib.hid (toenrol_any w1 A c t kind up H1.out HA1.out hN)
  have PK := Lib.hid (tokill_any w1 A c t n H1.out HA1.out hN)
  have PM := Lib.hid (tomove_any w1 A c t n up H1.out HA1.out hN)
  unfold doesT
  simp only
  clear h hA hw1 c1 b1
  by_cases hk : k = 0 ∨ k = 1
  · rw [if_pos hk]
    rcases hk with rfl | rfl
    · skip
      generalize enrolR t kind up = R at *
      obtain ⟨ra, rn, re⟩ := R
      (try simp only at PE)
      by_cases he : re = 0
      · subst he
        rw [if_pos rfl]
        go_enter Try.func31, Try.ntmps31
        go_wp2_with fail
        rw [← W1.out]
        refine PE.out.mono ?_
        rintro e w2 ⟨B, d, rfl, hO, hB, hc⟩
        have O2 := Lib.hid hO
        have K2 := Lib.hid hc
        clear hO hB hc
        go_wp2
        go_ret2
        exact ⟨B, d, rfl, O2.out.reads, O2.out.lt, C1.out.trans K2.out⟩
      · have hb : (re == 0) = false := by simpa using he
        rw [if_neg he]
        go_enter Try.func31, Try.ntmps31
        go_wp2_with fail
        rw [← W1.out]
        refine PE.out.mono ?_
        rintro e w2 ⟨B, d, rfl, hO, hB, hc⟩
        have K2 := Lib.hid hc
        clear hO hB hc
        go_wp2
        go_ret2
        exact ⟨A, c, rfl, H1.out.chg K2.out (by simp), fun a ha => Nat.lt_of_lt_of_le (HA1.out a ha) K2.out.size, C1.out.trans K2.out⟩
    · skip
      generalize enrolR t kind up = R at *
      obtain ⟨ra, rn, re⟩ := R
      (try simp only at PE)
      by_cases he : re = 0
      · subst he
        rw [if_pos rfl]
        go_enter Try.func31, Try.ntmps31
        go_wp2_with fail
        rw [← W1.out]
        refine PE.out.mono ?_
        rintro e w2 ⟨B, d, rfl, hO, hB, hc⟩
        have O2 := Lib.hid hO
        have K2 := Lib.hid hc
        clear hO hB hc
        go_wp2
        go_ret2
        exact ⟨B, d, rfl, O2.out.reads, O2.out.lt, C1.out.trans K2.out⟩
      · have hb : (re == 0) = false := by simpa using he
        rw [if_neg he]
        go_enter Try.func31, Try.ntmps31
        go_wp2_with fail
        rw [← W1.out]
        refine PE.out.mono ?_
        rintro e w2 ⟨B, d, rfl, hO, hB, hc⟩
        have K2 := Lib.hid hc
        clear hO hB hc
        go_wp2
        go_ret2
        exact ⟨A, c, rfl, H1.out.chg K2.out (by simp), fun a ha => Nat.lt_of_lt_of_le (HA1.out a ha) K2.out.size, C1.out.trans K2.out⟩
  rw [if_neg hk]
  have k0 : (k == 0) = false := by simp; omega
  have k1 : (k == 1) = false := by simp; omega
  have k0n : k ≠ 0 := by omega
  have k1n : k ≠ 1 := by omega
  by_cases hk2 : k = 2
  · subst hk2
    rw [if_pos rfl]
    generalize killR t n = R at *
    obtain ⟨ra, re⟩ := R
    (try simp only at PK)
    by_cases he : re = 0
    · subst he
      rw [if_pos rfl]
      go_enter Try.func31, Try.ntmps31
      go_wp2_with fail
      rw [← W1.out]
      refine PK.out.mono ?_
      rintro e w2 ⟨B, d, rfl, hO, hB, hc⟩
      have O2 := Lib.hid hO
      have K2 := Lib.hid hc
      clear hO hB hc
      go_wp2
      go_ret2
      exact ⟨B, d, rfl, O2.out.reads, O2.out.lt, C1.out.trans K2.out⟩
    · have hb : (re == 0) = false := by simpa using he
      rw [if_neg he]
      go_enter Try.func31, Try.ntmps31
      go_wp2_with fail
      rw [← W1.out]
      refine PK.out.mono ?_
      rintro e w2 ⟨B, d, rfl, hO, hB, hc⟩
      have K2 := Lib.hid hc
      clear hO hB hc
      go_wp2
      go_ret2
      exact ⟨A, c, rfl, H1.out.chg K2.out (by simp), fun a ha => Nat.lt_of_lt_of_le (HA1.out a ha) K2.out.size, C1.out.trans K2.out⟩
  rw [if_neg hk2]
  have k2 : (k == 2) = false := by simp; omega
  by_cases hk3 : k = 3
  · subst hk3
    rw [if_pos rfl]
    generalize moveR t n up = R at *
    obtain ⟨ra, re⟩ := R
    (try simp only at PM)
    by_cases he : re = 0
    · subst he
      rw [if_pos rfl]
      go_enter Try.func31, Try.ntmps31
      go_wp2_with fail
      rw [← W1.out]
      refine PM.out.mono ?_
      rintro e w2 ⟨B, d, rfl, hO, hB, hc⟩
      have O2 := Lib.hid hO
      have K2 := Lib.hid hc
      clear hO hB hc
      go_wp2
      go_ret2
      exact ⟨B, d, rfl, O2.out.reads, O2.out.lt, C1.out.trans K2.out⟩
    · have hb : (re == 0) = false := by simpa using he
      rw [if_neg he]
      go_enter Try.func31, Try.ntmps31
      go_wp2_with fail
      rw [← W1.out]
      refine PM.out.mono ?_
      rintro e w2 ⟨B, d, rfl, hO, hB, hc⟩
      have K2 := Lib.hid hc
      clear hO hB hc
      go_wp2
      go_ret2
      exact ⟨A, c, rfl, H1.out.chg K2.out (by simp), fun a ha => Nat.lt_of_lt_of_le (HA1.out a ha) K2.out.size, C1.out.trans K2.out⟩
  rw [if_neg hk3]
  have k3 : (k == 3) = false := by simp; omega
  go_enter Try.func31, Try.ntmps31
  go_wp2
  go_ret2
  rw [← W1.out]
  exact ⟨A, c, rfl, H1.out, HA1.out, C1.out⟩
end Go.Proofs.Ytleioiihoplmaaa
