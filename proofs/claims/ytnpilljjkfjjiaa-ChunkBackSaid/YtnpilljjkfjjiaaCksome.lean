/- some(n). -/
import Derived.Test.YtnpilljjkfjjiaaCkbox
namespace Go.Proofs.Ytnpilljjkfjjiaa
open Go.RowKit Go.Lib
set_option linter.unusedSimpArgs false
set_option linter.unusedVariables false

/-- The bytes of some(n). -/
def someR (n : Nat) : List UInt8 := (List.range n).map fun j => UInt8.ofNat (j % 256)
theorem someR_len (n : Nat) : (someR n).length = n := by simp [someR]
def someF (n j : Nat) : List UInt8 := someR j ++ List.replicate (n - j) 0
theorem someF_len {n j : Nat} (h : j ≤ n) : (someF n j).length = n := by simp [someF, someR_len]; omega
theorem someF_next {n j : Nat} (h : j < n) : (someF n j).set j (UInt8.ofNat (j % 256)) = someF n (j + 1) := by
  unfold someF
  rw [List.set_append_right _ _ (by simp [someR_len]), someR_len, Nat.sub_self, show n - j = (n - (j + 1)) + 1 by omega, List.replicate_succ, List.set_cons_zero]
  simp [someR, List.range_succ]
set_option maxRecDepth 100000 in
set_option maxHeartbeats 2000000 in
theorem some_any (w : World) (n : Nat) (hn : n ≤ 100000) : Calls Try.prog 27 #[.int .i64 (n : Int)] w fun e w' => ∃ g, e = .returned (.slice (some ⟨g, 0, none⟩) n n) ∧ OwnB w' (some ⟨g, 0, none⟩) n (someR n) ∧ w.heap.size ≤ g ∧ Chg [] w w' := by
  have hmk := run_mkC n (by omega)
  obtain ⟨w1, hw1, c1, b1⟩ := news1 w (.cells (zeroRowC n) 5)
  have i0 : (0 : Int) ≤ (n : Int) := by omega
  have i1 : ¬ (n : Int) < 0 := by omega
  have W1 := Lib.hid hw1
  have C1 := Lib.hid c1
  have B1 := Lib.hid (show Row w1 w.heap.size (someF n 0) from by simpa [Row, someF, someR, zeroRowC] using b1)
  clear hw1 c1 b1
  go_enter Try.func27, Try.ntmps27
  go_upto_region 2 with fail
  rw [← W1.out]
  generalize hg : w.heap.size = g at *
  have HG := Lib.hid hg
  clear hg W1 hmk
  go_wp2
  go_loopw [4] (fun v wr => ∃ j : Nat, j ≤ n ∧ v = .int .i64 (j : Int) ∧ Hid (Row wr g (someF n j) ∧ Chg [g] w1 wr)) (fun v _ => n - (RowKit.intOf v).toNat)
  case atStart => exact ⟨0, Nat.zero_le _, rfl, B1.out, Chg.refl _ _⟩
  case round =>
    obtain ⟨j, hj, rfl, HI⟩ := hrel
    by_cases hlt : j < n
    · have hcj := HI.out.1.cell j (by rw [someF_len hj]; exact hlt)
      have hfj := free_of HI.out.1 j
      have k0 : (0 : Int) ≤ (j : Int) := by omega
      have k1 : (j : Int) < (n : Int) := by omega
      have k2 : IntKind.i64.wrap ((j : Int) + 1) = (j : Int) + 1 := IntWalk.i64_in _ (by omega)
      have k3 : IntKind.u8.wrap (j : Int) = ((j % 256 : Nat) : Int) := by simp [IntKind.wrap, IntKind.bits, IntKind.signed]
      go_wp2
      refine ⟨⟨j + 1, by omega, by simp, ?_, HI.out.2.setCell (by simp) _⟩, by simp [RowKit.intOf]; omega⟩
      rw [← someF_next hlt]
      exact HI.out.1.set j _ _ (u8_of _ (j % 256) (by omega) (by omega))
    · have k1 : ¬ (j : Int) < (n : Int) := by omega
      have hjn : j = n := by omega
      have HJ := Lib.hid hjn
      clear hjn hlt hj
      go_wp2
      go_ret
      have h1 := HJ.out
      subst h1
      have hr := HI.out.1
      have e : someF j j = someR j := by simp [someF]
      rw [e] at hr
      refine ⟨g, rfl, .of (full := someR j) hr (by rw [someR_len]; exact Nat.le_refl _) (by simp only [maxLen]; omega) (someR_len _) (by simp), by rw [HG.out]; exact Nat.le_refl _, C1.out.trans' HI.out.2 (fun q hq => .inr (by simp at hq; rw [HG.out]; omega))⟩
end Go.Proofs.Ytnpilljjkfjjiaa
