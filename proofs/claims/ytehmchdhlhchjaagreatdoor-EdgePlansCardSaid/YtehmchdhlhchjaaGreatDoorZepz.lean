/- The document's writer, call by call. The document's writer: Raw, Text, Out. The document's reader: Open, fail, Left, End, and Num. The document's number, read. The document's number, read: where digits follow, or none. The document's reader: Raw and Text. The document's writer and reader, made since a world w. The document's effects: Check, Same, Less, Size, Bytes. -/
import Derived.Test.YtehmchdhlhchjaaGreatDoorZepy
import Derived.Test.YtehmchdhlhchjaaGreatDoorZepb
import Derived.Deep.RegionHeld3
import Derived.Deep.AppendLies
import Derived.Test.YtehmchdhlhchjaaGreatDoorZepm
set_option linter.unusedSimpArgs false
set_option linter.unusedVariables false
namespace Go.Proofs.YtehmchdhlhchjaaGreatDoor
section
open Go.RowKit

set_option maxHeartbeats 4000000 in
theorem fcheck_any (w : World) (k m : Int) (A : Option Addr) (n c : Nat) (hn : n ≤ 140737488351232) :
  Calls Tryz.prog 176 #[.agg #[.int .i64 k, .int .i64 m, .slice A n c]] w fun e w' => e = .returned (.int .i64 (chkE k m n)) ∧ Chg [] w w' := by
 have go : ∀ v, chkE k m n = v → Calls Tryz.prog 176 #[.agg #[.int .i64 k, .int .i64 m, .slice A n c]] w (fun e w' => e = .returned (.int .i64 v) ∧ Chg [] w w') → Calls Tryz.prog 176 #[.agg #[.int .i64 k, .int .i64 m, .slice A n c]] w fun e w' => e = .returned (.int .i64 (chkE k m n)) ∧ Chg [] w w' := fun v hv h => hv ▸ h
 by_cases h1 : k = 1
 ·
  subst h1
  by_cases m0 : m < 0
  ·
   refine go 2 (chkE_odd (by unfold Fine; omega)) ?_
   have m0' : ¬ 0 ≤ m := by omega
   clear go
   go_enter Tryz.func176, Tryz.ntmps176
   go_wp2; go_ret
   exact ⟨rfl, (Chg.refl _ _).alloc _⟩
  have m0' : 0 ≤ m := by omega
  by_cases m1 : 511 < m
  ·
   refine go 2 (chkE_odd (by unfold Fine; omega)) ?_
   have m1' : ¬ m ≤ 511 := by omega
   clear go
   go_enter Tryz.func176, Tryz.ntmps176
   go_wp2; go_ret
   exact ⟨rfl, (Chg.refl _ _).alloc _⟩
  have m1' : m ≤ 511 := by omega
  by_cases n1 : 1000 < n
  ·
   refine go 2 (chkE_odd (by unfold Fine; omega)) ?_
   have n1' : decide ((n : Int) ≤ 1000) = false := by simp; omega
   clear go
   go_enter Tryz.func176, Tryz.ntmps176
   go_wp2; go_ret
   exact ⟨rfl, (Chg.refl _ _).alloc _⟩
  ·
   refine go 0 (chkE_fine (by unfold Fine; omega)) ?_
   have n1' : decide ((n : Int) ≤ 1000) = true := by simp; omega
   clear go
   go_enter Tryz.func176, Tryz.ntmps176
   go_wp2; go_ret
   exact ⟨rfl, (Chg.refl _ _).alloc _⟩
 have h1' : (k == 1) = false := by simpa using h1
 by_cases h2 : k = 2
 ·
  subst h2
  by_cases m0 : m < 0
  ·
   refine go 2 (chkE_odd (by unfold Fine; omega)) ?_
   have m0' : ¬ 0 ≤ m := by omega
   clear go
   go_enter Tryz.func176, Tryz.ntmps176
   go_wp2; go_ret
   exact ⟨rfl, (Chg.refl _ _).alloc _⟩
  have m0' : 0 ≤ m := by omega
  by_cases m1 : 511 < m
  ·
   refine go 2 (chkE_odd (by unfold Fine; omega)) ?_
   have m1' : ¬ m ≤ 511 := by omega
   clear go
   go_enter Tryz.func176, Tryz.ntmps176
   go_wp2; go_ret
   exact ⟨rfl, (Chg.refl _ _).alloc _⟩
  have m1' : m ≤ 511 := by omega
  by_cases n1 : n = 0
  ·
   subst n1
   refine go 0 (chkE_fine (by unfold Fine; omega)) ?_
   clear go
   go_enter Tryz.func176, Tryz.ntmps176
   go_wp2; go_ret
   exact ⟨rfl, (Chg.refl _ _).alloc _⟩
  ·
   refine go 2 (chkE_odd (by unfold Fine; omega)) ?_
   have n1' : ((n : Int) == 0) = false := by simp; omega
   clear go
   go_enter Tryz.func176, Tryz.ntmps176
   go_wp2; go_ret
   exact ⟨rfl, (Chg.refl _ _).alloc _⟩
 have h2' : (k == 2) = false := by simpa using h2
 by_cases h3 : k = 3
 ·
  subst h3
  by_cases m0 : m = 0
  ·
   subst m0
   by_cases n1 : n = 0
   ·
    subst n1
    refine go 0 (chkE_fine (by unfold Fine; omega)) ?_
    clear go
    go_enter Tryz.func176, Tryz.ntmps176
    go_wp2; go_ret
    exact ⟨rfl, (Chg.refl _ _).alloc _⟩
   ·
    refine go 2 (chkE_odd (by unfold Fine; omega)) ?_
    have n1' : ((n : Int) == 0) = false := by simp; omega
    clear go
    go_enter Tryz.func176, Tryz.ntmps176
    go_wp2; go_ret
    exact ⟨rfl, (Chg.refl _ _).alloc _⟩
  ·
   refine go 2 (chkE_odd (by unfold Fine; omega)) ?_
   have m0' : (m == 0) = false := by simpa using m0
   clear go
   go_enter Tryz.func176, Tryz.ntmps176
   go_wp2; go_ret
   exact ⟨rfl, (Chg.refl _ _).alloc _⟩
 have h3' : (k == 3) = false := by simpa using h3
 refine go 2 (chkE_odd (by unfold Fine; omega)) ?_
 clear go
 go_enter Tryz.func176, Tryz.ntmps176
 go_wp2; go_ret
 exact ⟨rfl, (Chg.refl _ _).alloc _⟩
end
end Go.Proofs.YtehmchdhlhchjaaGreatDoor
