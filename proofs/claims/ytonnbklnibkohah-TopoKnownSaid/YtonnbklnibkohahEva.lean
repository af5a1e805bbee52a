/- A closed call: what the run on marks says is what the program does, in whatever world. No program is named here. -/
import Derived.Test.YtonnbklnibkohahEv9
import Derived.Test.YtonnbklnibkohahBase
namespace Go.Proofs.Ytonnbklnibkohah
namespace Ev
open Go.RowKit

def yes (x : Option Res) : Bool := match x with
  | some ⟨_, .bool true, _, _⟩ => true
  | _ => false
def noNum (P : Program) : Bool := P.funcs.toList.all fun fn => !(fn.name == "runtime.NumGoroutine")
theorem noNum_ok {P : Program} (h : noNum P = true) : NoNum P := by
  intro f fn hf
  have h1 := List.all_eq_true.1 h fn (by
    have := Array.mem_of_getElem? hf
    simpa using this)
  simpa using h1
theorem closed_call {P : Program} {f n : Nat} (hN : noNum P = true) (hm : P.follows .mixedOrders = true) (h : yes (run P 0 n (.call f [] ⟨.nil, 0, []⟩)) = true) (w : World) :
    Calls P f #[] w fun e w' => e = .returned (.bool true) ∧ Chg [] w w' := by
  unfold yes at h
  split at h
  case h_2 => cases h
  rename_i o fr st hrun
  have hk := run_all (G := 0) (noNum_ok hN) hm n _ _ hrun
  have hc : CallOk P 0 f [] ⟨.nil, 0, []⟩ ⟨o, .bool true, fr, st⟩ := hk
  have hr : Rel 0 (fun _ => none) (⟨.nil, 0, []⟩ : St) w := ⟨fun i ob h => by simp [Tr.get_nil] at h, fun i j ob ob' b k k' h => by simp [Tr.get_nil] at h, fun g hg => absurd hg (Nat.not_lt_zero g)⟩
  have := hc (fun _ => none) w [] 0 hr .nil (fun _ _ _ => rfl)
  refine (callsIn_wide (n := 0).1 (show CallsIn Fence.wide 0 P f #[] w _ from this)).mono ?_
  rintro e w' ⟨r', v', rfl, hv, hs⟩
  refine ⟨by rw [VR.closed_eq hv rfl], hs.os, hs.tape, hs.output, hs.size, fun k hk _ => hs.frame k hk fun i kk _ h => by cases h⟩
end Ev
end Go.Proofs.Ytonnbklnibkohah
