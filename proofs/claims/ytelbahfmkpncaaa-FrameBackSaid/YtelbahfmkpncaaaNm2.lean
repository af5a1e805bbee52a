/- The reader's number where no digit follows. -/
import Derived.Test.YtelbahfmkpncaaaNm
namespace Go.Proofs.Ytelbahfmkpncaaa
open Go.RowKit

set_option maxHeartbeats 1000000 in
theorem num_none (w : World) (b g : Nat) (xs : List UInt8) (p : Nat) (fa low high : Int) (h : Rdr w b g xs p 0 fa) (hl : xs.length ≤ 140737488351232) (x : UInt8) (hx : xs[p]? = some x) (h0 : x.toNat = 0) (hr : low ≤ 0) (hr2 : 0 ≤ high) :
    Calls Try.prog 64 #[.pointer (some ⟨b, 0, none⟩), .int .i64 low, .int .i64 high] w fun e w' => e = .returned (.tuple #[.int .i64 0, .int .i64 ((p : Int) + 1)]) ∧ Chg [] w w' := by
  obtain ⟨A, c, h1, h2, h3⟩ := h
  have hp : p < xs.length := (List.getElem?_eq_some_iff.1 hx).1
  have hcap := h2.cap
  unfold maxLen at hcap
  have hne : ((p : Int) == xs.length) = false := by simp; omega
  obtain ⟨rfl, hc⟩ := h2.at_ h3 hx
  rw [h0] at hc
  have k1 := cell_of h1 1
  have k2 := cell_of h1 2
  simp only [List.getElem?_toArray, List.getElem?_cons_zero, List.getElem?_cons_succ] at k1 k2
  have H := Lib.hid h1
  have Hx := Lib.hid hx
  have H0 := Lib.hid h0
  clear h1 h3 hx h0
  go_enter Try.func64, Try.ntmps64
  go_wp2
  refine wp_scope_fwd 0 rfl ?_
  go_wp2
  iterate 4 (go_quiet (fail); go_wp2)
  all_goals
    iterate 2 (go_quiet (fail); go_wp2)
    refine wp_loop_rounds 1 ?_
    rw [rounds_succ]
    go_wp2
    go_quiet (fail)
    go_wp2
    simp only [Exit.jump]
    go_ret2
    exact ⟨rfl, ((Chg.refl _ _).drewN _).drewN _⟩

set_option maxHeartbeats 1000000 in
theorem num_none_out (w : World) (b g : Nat) (xs : List UInt8) (p : Nat) (fa low high : Int) (h : Rdr w b g xs p 0 fa) (x : UInt8) (hx : xs[p]? = some x) (h0 : x.toNat = 0) (hr : 0 < low ∨ low ≤ 0 ∧ high < 0) :
    Calls Try.prog 64 #[.pointer (some ⟨b, 0, none⟩), .int .i64 low, .int .i64 high] w fun e w' => e = .returned (.tuple #[.int .i64 0, .int .i64 p]) ∧ Failed w w' b g xs p 5 p := by
  obtain ⟨A, c, h1, h2, h3⟩ := h
  have hp : p < xs.length := (List.getElem?_eq_some_iff.1 hx).1
  have hcap := h2.cap
  unfold maxLen at hcap
  have hne : ((p : Int) == xs.length) = false := by simp; omega
  obtain ⟨rfl, hc⟩ := h2.at_ h3 hx
  rw [h0] at hc
  have k1 := cell_of h1 1
  have k2 := cell_of h1 2
  have k3 := cell_of h1 3
  have k4 := cell_of h1 4
  have f3 := free_of h1 3
  have f4 := free_of h1 4
  simp only [List.getElem?_toArray, List.getElem?_cons_zero, List.getElem?_cons_succ] at k1 k2 k3 k4
  have H := Lib.hid h1
  have Hx := Lib.hid hx
  have H0 := Lib.hid h0
  clear h1 h3 hx h0
  rcases hr with hr | ⟨hr, hr2⟩
  all_goals
    go_enter Try.func64, Try.ntmps64
    go_wp2
    refine wp_scope_fwd 0 rfl ?_
    go_wp2
    iterate 4 (go_quiet (fail); go_wp2)
    all_goals
      iterate 2 (go_quiet (fail); go_wp2)
      refine wp_loop_rounds 1 ?_
      rw [rounds_succ]
      go_wp2
      go_quiet (fail)
      go_wp2
      go_step3
      refine And.intro rfl ?_
      show Code.wp _ _ _ _ _
      go_wp2
      go_quiet (fail)
      go_wp2
      simp only [Exit.jump]
      go_ret2
      exact ⟨rfl, failed_of H.out h2 (.inr rfl) _ _ _ _⟩
end Go.Proofs.Ytelbahfmkpncaaa
