/- say: an act, written by the document's writer; what keeps two writers apart. -/
import Derived.Test.YtknhgicpndgdoaaActs
import Derived.Test.YtknhgicpndgdoaaVw3
namespace Go.Proofs.Ytknhgicpndgdoaa
open Go.RowKit

set_option maxHeartbeats 400000 in
theorem say_any (w : World) (b g : Nat) (xs : List UInt8) (e kind n : Int) (s : ByteArray) (B : Option Addr) (m d : Nat) (ys : List UInt8) (h : VWr w b g xs e) (hlen : xs.length ≤ 1048576) (hs : s.size ≤ 140737488351232) (hm : m ≤ 140737488351232) (hn1 : -9223372036854775808 ≤ n) (hn2 : n ≤ 9223372036854775807) (hr : Bs w B m ys) :
    Calls Try.prog 13 #[.pointer (some ⟨b, 0, none⟩), .agg #[.int .i64 kind, .int .i64 n, .string s, .slice B m d]] w fun r w' => r = .returned (.tuple #[]) ∧ VBetween w w' b g (wAct xs e kind n s.data.toList ys).1 (wAct xs e kind n s.data.toList ys).2 := by
  have hc : Chg [] w (w.alloc (.cells #[.int .i64 kind, .int .i64 n, .string s, .slice B m d] 34)) := (Chg.refl [] w).alloc _
  have h' := h.chg hc (by simp) (by simp)
  have hr' := hr.chg hc (by simp)
  have HC := Lib.hid hc
  clear h hr hc
  unfold wAct
  by_cases k0 : kind = 0
  · subst k0
    simp only [if_true]
    go_enter Try.func13, Try.ntmps13
    go_wp2_with (go_at_call 40; refine (vnum_any _ b g xs e n h' hlen hn1 hn2).mono ?_; rintro r w1 ⟨rfl, hB⟩)
    go_end0
    exact ⟨rfl, hB.later HC.out⟩
  · by_cases k1 : kind = 1
    · subst k1
      simp only [if_neg k0, if_true]
      clear k0
      go_enter Try.func13, Try.ntmps13
      go_wp2_with (go_at_call 41; refine (vtext_any _ b g xs e s h' hlen hs).mono ?_; rintro r w1 ⟨rfl, hB⟩)
      go_end0
      exact ⟨rfl, hB.later HC.out⟩
    · simp only [if_neg k0, if_neg k1]
      have e0 : (kind == 0) = false := by simpa using k0
      have e1 : (kind == 1) = false := by simpa using k1
      clear k0 k1
      go_enter Try.func13, Try.ntmps13
      go_wp2_with (go_at_call 42; refine (vraw_any _ b g xs e B m d ys h' hlen hm hr').mono ?_; rintro r w1 ⟨rfl, hB⟩)
      go_end0
      exact ⟨rfl, hB.later HC.out⟩

/-- Whatever block has two types is two blocks. -/
theorem ne_type {w : World} {b v : Nat} {cs cs' : Array Value} {t t' : TypeId} (h : w.heap[b]? = some (.cells cs t (0, 0))) (k : w.heap[v]? = some (.cells cs' t' (0, 0))) (ht : t ≠ t') : b ≠ v := by
  rintro rfl
  rw [h] at k
  cases k
  exact ht rfl
theorem apart2 {w : World} {b g v h : Nat} {xs ys : List UInt8} {e f : Int} (hw : Wrt w b g xs e) (hv : VWr w v h ys f) : b ≠ v ∧ b ≠ h ∧ g ≠ v := by
  obtain ⟨A, c, h1, h2, h3⟩ := hw
  obtain ⟨A', c', k1, k2, k3⟩ := hv
  have hbv := ne_type h1 k1 (by decide)
  refine ⟨hbv, ?_, ?_⟩
  · rcases k3 with ⟨_, rfl⟩ | rfl
    · exact hbv
    · have := k2.ne h1 (by decide) _ rfl
      exact fun e => this e.symm
  · rcases h3 with ⟨_, rfl⟩ | rfl
    · exact hbv
    · exact h2.ne k1 (by decide) _ rfl
end Go.Proofs.Ytknhgicpndgdoaa
