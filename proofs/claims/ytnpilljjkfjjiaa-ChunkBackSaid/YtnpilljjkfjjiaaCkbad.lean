/- Cut: what is refused. -/
import Derived.Test.YtnpilljjkfjjiaaCkcutp
namespace Go.Proofs.Ytnpilljjkfjjiaa
open Go.RowKit
set_option linter.unusedSimpArgs false
set_option linter.unusedVariables false

set_option maxRecDepth 100000 in
set_option maxHeartbeats 2000000 in
theorem bxcut_no0 (w : World) (it : Int) (A : Option Addr) (n c : Nat) (h : it < 1) : Calls Try.prog 11 #[.int .i64 it, .slice A n c] w fun e w' => e = .returned (.tuple #[.slice none 0 0, .int .i64 2]) ∧ Chg [] w w' := by
  go_enter Try.func11, Try.ntmps11
  go_wp2
  go_ret2
  exact ⟨rfl, ((Chg.refl [] w).alloc _).alloc _⟩
set_option maxRecDepth 100000 in
set_option maxHeartbeats 2000000 in
theorem bxcut_no1 (w : World) (it : Int) (A : Option Addr) (n c : Nat) (g : ¬ it < 1) (h : it > 1099511627776) : Calls Try.prog 11 #[.int .i64 it, .slice A n c] w fun e w' => e = .returned (.tuple #[.slice none 0 0, .int .i64 2]) ∧ Chg [] w w' := by
  go_enter Try.func11, Try.ntmps11
  go_wp2
  go_ret2
  exact ⟨rfl, ((Chg.refl [] w).alloc _).alloc _⟩
set_option maxRecDepth 100000 in
set_option maxHeartbeats 2000000 in
theorem bxcut_no2 (w : World) (it : Int) (A : Option Addr) (n c : Nat) (g : ¬ it < 1) (g2 : ¬ it > 1099511627776) (h : n = 0) : Calls Try.prog 11 #[.int .i64 it, .slice A n c] w fun e w' => e = .returned (.tuple #[.slice none 0 0, .int .i64 2]) ∧ Chg [] w w' := by
  subst h
  have z0 : ((0 : Nat) : Int) = 0 := rfl
  have z1 : (((0 : Nat) : Int) == 0) = true := rfl
  go_enter Try.func11, Try.ntmps11
  go_wp2
  go_ret2
  exact ⟨rfl, ((Chg.refl [] w).alloc _).alloc _⟩
set_option maxRecDepth 100000 in
set_option maxHeartbeats 2000000 in
theorem bxcut_no3 (w : World) (it : Int) (A : Option Addr) (n c : Nat) (g : ¬ it < 1) (g2 : ¬ it > 1099511627776) (g3 : 60000 < n) : Calls Try.prog 11 #[.int .i64 it, .slice A n c] w fun e w' => e = .returned (.tuple #[.slice none 0 0, .int .i64 3]) ∧ Chg [] w w' := by
  have z0 : ¬ ((n : Int) = 0) := by omega
  have z1 : ((n : Int) == 0) = false := by simpa using z0
  have z2 : ((n : Int) > 60000) := by omega
  go_enter Try.func11, Try.ntmps11
  go_wp2
  go_ret2
  exact ⟨rfl, ((Chg.refl [] w).alloc _).alloc _⟩

set_option maxRecDepth 100000 in
set_option maxHeartbeats 2000000 in
theorem bqcut_no0 (w : World) (it : Int) (A : Option Addr) (n c : Nat) (h : it < 1) : Calls Try.prog 12 #[.int .i64 it, .slice A n c] w fun e w' => e = .returned (.tuple #[.slice none 0 0, .int .i64 2]) ∧ Chg [] w w' := by
  go_enter Try.func12, Try.ntmps12
  go_wp2
  go_ret2
  exact ⟨rfl, Chg.refl [] w⟩
set_option maxRecDepth 100000 in
set_option maxHeartbeats 2000000 in
theorem bqcut_no1 (w : World) (it : Int) (A : Option Addr) (n c : Nat) (g : ¬ it < 1) (h : it > 1099511627776) : Calls Try.prog 12 #[.int .i64 it, .slice A n c] w fun e w' => e = .returned (.tuple #[.slice none 0 0, .int .i64 2]) ∧ Chg [] w w' := by
  go_enter Try.func12, Try.ntmps12
  go_wp2
  go_ret2
  exact ⟨rfl, Chg.refl [] w⟩
set_option maxRecDepth 100000 in
set_option maxHeartbeats 2000000 in
theorem bqcut_no2 (w : World) (it : Int) (A : Option Addr) (n c : Nat) (g : ¬ it < 1) (g2 : ¬ it > 1099511627776) (h : n = 0) : Calls Try.prog 12 #[.int .i64 it, .slice A n c] w fun e w' => e = .returned (.tuple #[.slice none 0 0, .int .i64 2]) ∧ Chg [] w w' := by
  subst h
  have z0 : ((0 : Nat) : Int) = 0 := rfl
  have z1 : (((0 : Nat) : Int) == 0) = true := rfl
  go_enter Try.func12, Try.ntmps12
  go_wp2
  go_ret2
  exact ⟨rfl, Chg.refl [] w⟩
set_option maxRecDepth 100000 in
set_option maxHeartbeats 2000000 in
theorem bqcut_no3 (w : World) (it : Int) (A : Option Addr) (n c : Nat) (g : ¬ it < 1) (g2 : ¬ it > 1099511627776) (g3 : 60000 < n) : Calls Try.prog 12 #[.int .i64 it, .slice A n c] w fun e w' => e = .returned (.tuple #[.slice none 0 0, .int .i64 3]) ∧ Chg [] w w' := by
  have z0 : ¬ ((n : Int) = 0) := by omega
  have z1 : ((n : Int) == 0) = false := by simpa using z0
  have z2 : ((n : Int) > 60000) := by omega
  go_enter Try.func12, Try.ntmps12
  go_wp2
  go_ret2
  exact ⟨rfl, Chg.refl [] w⟩
end Go.Proofs.Ytnpilljjkfjjiaa
