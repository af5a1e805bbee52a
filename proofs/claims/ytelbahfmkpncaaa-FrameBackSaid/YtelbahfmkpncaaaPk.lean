/- Package frame: CheckPacket. -/
import Derived.Test.YtelbahfmkpncaaaFsum
namespace Go.Proofs.Ytelbahfmkpncaaa
open Go.RowKit
set_option linter.unusedSimpArgs false

/-- Is it a number that a packet may hold? -/
def inN (x : Int) : Prop := 0 ≤ x ∧ x ≤ 1099511627776
instance (x : Int) : Decidable (inN x) := by unfold inN; exact inferInstance
/-- Which packets may be. -/
def FineP (f t n a : Int) (len : Nat) : Prop := 1 ≤ f ∧ f ≤ 1099511627776 ∧ inN t ∧ inN n ∧ inN a ∧ len ≤ 400 ∧ (n = 0 → len = 0)
instance (f t n a : Int) (len : Nat) : Decidable (FineP f t n a len) := by unfold FineP; exact inferInstance
def chkP (f t n a : Int) (len : Nat) : Int := if FineP f t n a len then 0 else 2
theorem chkP_fine {f t n a : Int} {len : Nat} (h : FineP f t n a len) : chkP f t n a len = 0 := if_pos h
theorem chkP_odd {f t n a : Int} {len : Nat} (h : ¬ FineP f t n a len) : chkP f t n a len = 2 := if_neg h

set_option maxHeartbeats 4000000 in
theorem pcheckp_any (w : World) (f t m a : Int) (A : Option Addr) (n c : Nat) (hn : n ≤ 140737488351232) :
    Calls Try.prog 17 #[.agg #[.int .i64 f, .int .i64 t, .int .i64 m, .int .i64 a, .slice A n c]] w fun e w' => e = .returned (.int .i64 (chkP f t m a n)) ∧ Chg [] w w' := by
  have odd : ¬ FineP f t m a n → chkP f t m a n = 2 := chkP_odd
  have fine : FineP f t m a n → chkP f t m a n = 0 := chkP_fine
  generalize chkP f t m a n = R at *
  have HO := Lib.hid odd
  have HF := Lib.hid fine
  clear odd fine
  obtain ⟨w0, hw0⟩ : ∃ w0 : World, w0 = (w.alloc (.cells #[.int .i64 f, .int .i64 t, .int .i64 m, .int .i64 a, .slice A n c] 24)).alloc (.cells #[.int .i64 t, .int .i64 m, .int .i64 a] 3) := ⟨_, rfl⟩
  have c0 : Chg [] w w0 := hw0 ▸ ((Chg.refl [] w).alloc _).alloc _
  have b0 : w0.heap[w.heap.size]? = some (.cells #[.int .i64 f, .int .i64 t, .int .i64 m, .int .i64 a, .slice A n c] 24 (0, 0)) := hw0 ▸ ((Chg.refl [] _).alloc _).at_ (heap_alloc_new w _) (by simp)
  have b1 : w0.heap[w.heap.size + 1]? = some (.cells #[.int .i64 t, .int .i64 m, .int .i64 a] 3 (0, 0)) := hw0 ▸ heap_alloc_two w _ _
  have k0 := cell_of b0 0
  have k2 := cell_of b0 2
  have k4 := cell_of b0 4
  have l0 := cell_of b1 0
  have l1 := cell_of b1 1
  have l2 := cell_of b1 2
  simp only [List.getElem?_toArray, List.getElem?_cons_succ, List.getElem?_cons_zero] at k0 k2 k4 l0 l1 l2
  have W0 := Lib.hid hw0
  have C0 := Lib.hid c0
  clear hw0 c0 b0 b1
  go_enter Try.func17, Try.ntmps17
  go_wp2
  rw [← W0.out]
  generalize w.heap.size + 1 = s1 at *
  generalize w.heap.size = s0 at *
  go_loop [13] (fun i => ∃ k : Nat, k ≤ 3 ∧ i = .int .i64 (k : Int) ∧ (0 < k → inN t) ∧ (1 < k → inN m) ∧ (2 < k → inN a)) (fun i => 3 - (intOf i).toNat)
  case atStart => exact ⟨0, by omega, rfl, by omega, by omega, by omega⟩
  case round =>
    obtain ⟨k, hk, rfl, h1, h2, h3⟩ := hrel
    rcases k with _ | _ | _ | _ | k
    · clear h1 h2 h3 hk
      by_cases t0 : t < 0
      · go_wp2
        go_ret
        exact ⟨by rw [HO.out (by unfold FineP inN; omega)]; rfl, C0.out⟩
      by_cases t1 : 1099511627776 < t
      · go_wp2
        go_ret
        exact ⟨by rw [HO.out (by unfold FineP inN; omega)]; rfl, C0.out⟩
      go_wp2
      go_round
      case rel => exact ⟨1, by omega, rfl, fun _ => by unfold inN; omega, by omega, by omega⟩
      case measure => simp [intOf]
    · have H1 := Lib.hid (h1 (by omega))
      clear h1 h2 h3 hk
      by_cases t0 : m < 0
      · go_wp2
        go_ret
        exact ⟨by rw [HO.out (by unfold FineP inN; omega)]; rfl, C0.out⟩
      by_cases t1 : 1099511627776 < m
      · go_wp2
        go_ret
        exact ⟨by rw [HO.out (by unfold FineP inN; omega)]; rfl, C0.out⟩
      go_wp2
      go_round
      case rel => exact ⟨2, by omega, rfl, fun _ => H1.out, fun _ => by unfold inN; omega, by omega⟩
      case measure => simp [intOf]
    · have H1 := Lib.hid (h1 (by omega))
      have H2 := Lib.hid (h2 (by omega))
      clear h1 h2 h3 hk
      by_cases t0 : a < 0
      · go_wp2
        go_ret
        exact ⟨by rw [HO.out (by unfold FineP inN; omega)]; rfl, C0.out⟩
      by_cases t1 : 1099511627776 < a
      · go_wp2
        go_ret
        exact ⟨by rw [HO.out (by unfold FineP inN; omega)]; rfl, C0.out⟩
      go_wp2
      go_round
      case rel => exact ⟨3, by omega, rfl, fun _ => H1.out, fun _ => H2.out, fun _ => by unfold inN; omega⟩
      case measure => simp [intOf]
    · have H1 := Lib.hid (h1 (by omega))
      have H2 := Lib.hid (h2 (by omega))
      have H3 := Lib.hid (h3 (by omega))
      clear h1 h2 h3 hk
      by_cases t0 : f < 1
      · go_wp2
        go_ret
        exact ⟨by rw [HO.out (by unfold FineP inN; omega)]; rfl, C0.out⟩
      by_cases t1 : 1099511627776 < f
      · go_wp2
        go_ret
        exact ⟨by rw [HO.out (by unfold FineP inN; omega)]; rfl, C0.out⟩
      by_cases t2 : 400 < n
      · go_wp2
        go_ret
        exact ⟨by rw [HO.out (by unfold FineP inN; omega)]; rfl, C0.out⟩
      by_cases t3 : m = 0
      · by_cases t4 : 0 < n
        · subst t3
          go_wp2
          go_ret
          exact ⟨by rw [HO.out (by unfold FineP inN; omega)]; rfl, C0.out⟩
        · subst t3
          go_wp2
          go_ret
          exact ⟨by rw [HF.out ⟨by omega, by omega, H1.out, H2.out, H3.out, by omega, by omega⟩]; rfl, C0.out⟩
      · go_wp2
        go_ret
        exact ⟨by rw [HF.out ⟨by omega, by omega, H1.out, H2.out, H3.out, by omega, by omega⟩]; rfl, C0.out⟩
    · omega
end Go.Proofs.Ytelbahfmkpncaaa
