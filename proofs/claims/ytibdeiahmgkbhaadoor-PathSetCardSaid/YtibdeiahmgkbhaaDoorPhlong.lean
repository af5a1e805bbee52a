/- The law's long: are texts more than are gone through? -/
import Derived.Test.YtibdeiahmgkbhaaDoorTextk
import Derived.Deep.QuietTactic
import Derived.BigQuiet
namespace Go.Proofs.YtibdeiahmgkbhaaDoor
open Go.RowKit
set_option linter.unusedSimpArgs false
set_option linter.unusedVariables false
def longT (xs : List (List UInt8)) : Bool := xs.any (fun x => decide (200 < x.length)) || decide (30 < xs.length)
theorem long_at {xs : List (List UInt8)} {k : Nat} (h : k < xs.length) (hb : 200 < xs[k].length) : longT xs = true := by
  unfold longT
  have : xs.any (fun x => decide (200 < x.length)) = true := List.any_eq_true.2 ⟨xs[k], List.getElem_mem h, by simpa using hb⟩
  rw [this, Bool.true_or]
set_option maxRecDepth 100000 in
set_option maxHeartbeats 2000000 in
theorem long_any (w : World) (A : Option Addr) (c : Nat) (xs : List (List UInt8)) (h : RdK textTy w A xs.length xs) (hn : xs.length ≤ 140737488351232) :
    Calls Tryd.prog 10 #[.slice A xs.length c] w fun e w' => e = .returned (.bool (longT xs)) ∧ w' = w := by
  have HA := Lib.hid h
  obtain ⟨R, hR⟩ : ∃ R, longT xs = R := ⟨_, rfl⟩
  rw [hR]
  have HR := Lib.hid hR
  clear h hR
  go_enter Tryd.func10, Tryd.ntmps10
  go_wp2
  go_loopw [3] (fun v3 wr => ∃ k : Nat, k ≤ xs.length ∧ v3 = .int .i64 (k : Int) ∧ Hid ((xs.take k).any (fun x => decide (200 < x.length)) = false) ∧ wr = w) (fun v3 _ => xs.length - (RowKit.intOf v3).toNat)
  case atStart => exact ⟨0, Nat.zero_le _, rfl, rfl, rfl⟩
  case round =>
    obtain ⟨k, hk, rfl, HC, rfl⟩ := hrel
    have k1 : IntKind.i64.wrap ((k : Int) + 1) = (k : Int) + 1 := IntWalk.i64_in _ (by omega)
    have i0 : (0 : Int) ≤ (k : Int) := by omega
    by_cases hlt : k < xs.length
    · have i1 : (k : Int) < (xs.length : Int) := by omega
      obtain ⟨g, o, eA, _⟩ := HA.out.line (by omega)
      subst eA
      have ex := List.getElem?_eq_getElem hlt
      have z := textCells HA.out ex
      have HL := Lib.hid (fun h => long_at (xs := xs) hlt h)
      have HT := Lib.hid (List.take_succ_eq_append_getElem hlt)
      generalize xs[k] = x at *
      have hs := strOf_size x
      clear ex
      by_cases hx : 200 < x.length
      · have i2 : (200 : Int) < (x.length : Int) := by omega
        have i3 : (200 : Int) < ((strOf x).size : Int) := by omega
        have HQ := Lib.hid (HR.out.symm.trans (HL.out hx))
        go_wp2
        go_ret
        exact ⟨congrArg (fun v => Ending.returned (Value.bool v)) HQ.out.symm, rfl⟩
      · have i2 : ¬ ((200 : Int) < (x.length : Int)) := by omega
        have i3 : ¬ ((200 : Int) < ((strOf x).size : Int)) := by omega
        go_wp2
        exact ⟨⟨k + 1, by omega, by simp, Lib.hid (by rw [HT.out, List.any_append, HC.out]; simp; omega), trivial⟩, by simp [RowKit.intOf]; omega⟩
    · obtain rfl : k = xs.length := by omega
      have HQ := Lib.hid (show R = decide ((30 : Int) < (xs.length : Int)) by
        have := HC.out
        rw [List.take_length] at this
        rw [← HR.out]
        unfold longT
        rw [this, Bool.false_or]
        rw [Bool.eq_iff_iff, decide_eq_true_eq, decide_eq_true_eq]
        omega)
      go_wp2
      go_ret
      exact ⟨congrArg (fun v => Ending.returned (Value.bool v)) HQ.out.symm, rfl⟩
end Go.Proofs.YtibdeiahmgkbhaaDoor
