/- The document's four. -/
import Derived.Test.YtpgelolchfglbaaPnum
import Derived.Deep.QuietTactic
import Derived.BigQuiet
namespace Go.Proofs.Ytpgelolchfglbaa
open Go.RowKit Go.Lib
set_option linter.unusedSimpArgs false
set_option linter.unusedVariables false
theorem numB_four (a b c d : UInt8) : numB [a, b, c, d] = a.toNat * 16777216 + b.toNat * 65536 + c.toNat * 256 + d.toNat := by
  simp [numB]; omega
set_option maxRecDepth 100000 in
set_option maxHeartbeats 2000000 in
theorem qfour_cells (w : World) (g o n c x0 x1 x2 x3 : Nat) (h0 : x0 < 256) (h1 : x1 < 256) (h2 : x2 < 256) (h3 : x3 < 256) (hn : 4 ≤ n) (z0 : w.cell? ⟨g, o, none⟩ = some (.int .u8 (x0 : Int))) (z1 : w.cell? ⟨g, o + 1, none⟩ = some (.int .u8 (x1 : Int))) (z2 : w.cell? ⟨g, o + 2, none⟩ = some (.int .u8 (x2 : Int))) (z3 : w.cell? ⟨g, o + 3, none⟩ = some (.int .u8 (x3 : Int))) :
    Calls Try.prog 73 #[.slice (some ⟨g, o, none⟩) n c] w fun e w' => e = .returned (.int .i64 ((x0 * 16777216 + x1 * 65536 + x2 * 256 + x3 : Nat) : Int)) ∧ Chg [] w w' := by
  have i0 : (0 : Int) < (n : Int) := by omega
  have i1 : (1 : Int) < (n : Int) := by omega
  have i2 : (2 : Int) < (n : Int) := by omega
  have i3 : (3 : Int) < (n : Int) := by omega
  go_enter Try.func73, Try.ntmps73
  go_wp2
  go_quiet (fail)
  go_wp2
  go_ret
  refine ⟨?_, (Chg.refl _ _).drewN _⟩
  simp
theorem Bs.at4 {w : World} {A : Option Addr} {n : Nat} {xs : List UInt8} (h : Bs w A n xs) (i : Nat) (a b c d : UInt8) (h0 : xs[i]? = some a) (h1 : xs[i + 1]? = some b) (h2 : xs[i + 2]? = some c) (h3 : xs[i + 3]? = some d) :
    ∃ g o, A = some ⟨g, o, none⟩ ∧ w.cell? ⟨g, o + i, none⟩ = some (bv a) ∧ w.cell? ⟨g, o + i + 1, none⟩ = some (bv b) ∧ w.cell? ⟨g, o + i + 2, none⟩ = some (bv c) ∧ w.cell? ⟨g, o + i + 3, none⟩ = some (bv d) := by
  have hp : 0 < xs.length := by have := (List.getElem?_eq_some_iff.1 h0).1; omega
  obtain ⟨ad, eA, hc0⟩ := h.cells 0 _ (List.getElem?_eq_getElem hp)
  have hsp := World.cell?_spot hc0
  obtain ⟨g, o, sp⟩ := ad
  have hsp : sp = none := by simpa [Addr.add] using hsp
  subst hsp eA
  refine ⟨g, o, rfl, ?_, ?_, ?_, ?_⟩
  · obtain ⟨ad, eA, hc⟩ := h.cells i _ h0; cases eA; rwa [add_lit] at hc
  · obtain ⟨ad, eA, hc⟩ := h.cells (i + 1) _ h1; cases eA; rwa [add_lit] at hc
  · obtain ⟨ad, eA, hc⟩ := h.cells (i + 2) _ h2; cases eA; rwa [add_lit] at hc
  · obtain ⟨ad, eA, hc⟩ := h.cells (i + 3) _ h3; cases eA; rwa [add_lit] at hc
end Go.Proofs.Ytpgelolchfglbaa
