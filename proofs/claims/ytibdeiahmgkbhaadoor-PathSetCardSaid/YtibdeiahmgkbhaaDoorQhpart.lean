/- The document's parts. -/
import Derived.Test.YtibdeiahmgkbhaaDoorPhpure
import Derived.Test.YtibdeiahmgkbhaaDoorTextk
import Derived.Deep.QuietTactic
import Derived.BigQuiet
namespace Go.Proofs.YtibdeiahmgkbhaaDoor
open Go.RowKit
set_option linter.unusedSimpArgs false
set_option linter.unusedVariables false
theorem okB_iff (b : UInt8) : okB b = true ↔ (97 ≤ (b.toNat : Int) ∧ (b.toNat : Int) ≤ 122) ∨ (48 ≤ (b.toNat : Int) ∧ (b.toNat : Int) ≤ 57) ∨ (b.toNat : Int) = 46 ∨ (b.toNat : Int) = 95 ∨ (b.toNat : Int) = 45 := by
  have h := foreign_byte b
  have : okB b = !foreignR b.toNat := by rw [h]; simp
  rw [this]
  simp [foreignR]
  omega
theorem okB_not (b : UInt8) : okB b = false ↔ ¬ ((97 ≤ (b.toNat : Int) ∧ (b.toNat : Int) ≤ 122) ∨ (48 ≤ (b.toNat : Int) ∧ (b.toNat : Int) ≤ 57) ∨ (b.toNat : Int) = 46 ∨ (b.toNat : Int) = 95 ∨ (b.toNat : Int) = 45) := by
  rw [← okB_iff]
  simp
theorem part_bad {l : List UInt8} {k : Nat} (h : k < l.length) (hb : okB l[k] = false) : partL 12 l = false := by
  have : l.all okB = false := by
    rw [List.all_eq_false]
    exact ⟨l[k], List.getElem_mem h, by simp [hb]⟩
  simp [partL, this]
theorem strOf_get (l : List UInt8) (k : Nat) (h : k < (strOf l).size) (h' : k < l.length) : (strOf l)[k] = l[k] := by
  show (strOf l).data[k] = l[k]
  simp [strOf]
set_option maxHeartbeats 4000000 in
theorem qpart_any (w : World) (l : List UInt8) (hlen : l.length ≤ 140737488351232) :
    Calls Tryd.prog 39 #[.string (strOf l)] w fun e w' => e = .returned (.bool (partL 12 l)) ∧ w' = w := by
  have hs := strOf_size l
  go_enter Tryd.func39, Tryd.ntmps39
  go_wp2
  go_loopw [3, 4] (fun v3 v4 wr => ∃ k : Nat, k ≤ l.length ∧ v3 = .int .i64 (k : Int) ∧ (l.take k).all okB = true ∧ wr = w) (fun v3 _ _ => l.length - (RowKit.intOf v3).toNat)
  case atStart => exact ⟨0, Nat.zero_le _, rfl, rfl, rfl⟩
  case round =>
    obtain ⟨k, hk, rfl, hall, rfl⟩ := hrel
    by_cases hlt : k < l.length
    · have ex := List.getElem?_eq_getElem hlt
      have i0 : (0 : Int) ≤ (k : Int) := by omega
      have i1 : (k : Int) < ((strOf l).size : Int) := by omega
      have hb := strOf_get l k (by omega) hlt
      have HB := Lib.hid hb
      have HA := Lib.hid hall
      clear hb hall ex
      go_wp2
      all_goals (try simp only [bne_iff_ne, ne_eq, bne_eq_false_iff_eq] at *)
      all_goals first
        | (go_ret; exact ⟨by rw [part_bad hlt (by rw [← HB.out, okB_not]; omega)]; rfl, rfl⟩)
        | (refine ⟨⟨k + 1, by omega, by simp, ?_, trivial⟩, by simp [RowKit.intOf]; omega⟩
           have ho : okB l[k] = true := by rw [← HB.out, okB_iff]; omega
           rw [List.take_succ_eq_append_getElem hlt, List.all_append, HA.out]
           simp [ho])
    · obtain rfl : k = l.length := by omega
      rw [List.take_length] at hall
      have HA := Lib.hid hall
      clear hall
      go_wp2
      all_goals (try simp only [bne_iff_ne, ne_eq, bne_eq_false_iff_eq] at *)
      all_goals
        go_ret
        refine ⟨congrArg (fun b => Ending.returned (Value.bool b)) ?_, rfl⟩
        rw [Bool.eq_iff_iff]
        simp [partL, HA.out]
      all_goals first
        | (intros; omega)
        | (intro a b c; exact absurd (by assumption) c)
end Go.Proofs.YtibdeiahmgkbhaaDoor
