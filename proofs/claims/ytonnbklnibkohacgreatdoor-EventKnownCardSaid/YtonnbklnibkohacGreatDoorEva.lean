/- A closed call: what the run on marks says is what the program does, in whatever world. No program is named here. -/
import Derived.Test.YtonnbklnibkohacGreatDoorEv9
import Derived.Test.YtonnbklnibkohacGreatDoorBase
namespace Go.Proofs.YtonnbklnibkohacGreatDoor
namespace Ev
open Go.RowKit

def yes (x : Option Res) : Bool := match x with
  | some ⟨_, .bool true, _, _⟩ => true
  | _ => false
def noNum (P : Program) : Bool := P.funcs.toList.all fun fn => !(fn.name == "runtime.NumGoroutine")
theorem closed_call {P : Program} {X : List (Nat × Ext)} {g f n : Nat} (hN : noNum P = true) (hX : ∀ f e, findX X f = some e → ∀ args w, (callFunc f args).run P w = ((semX e args).run P w).andThen fun v w' => .ok (.value v) w')
    (hm : P.follows .mixedOrders = true) (h : yes (run P ⟨g, X⟩ n (.call f [] ⟨.nil, g, []⟩)) = true) (w : World) :
    Calls P f #[] w fun e w' => e = .returned (.bool true) ∧ Chg [] w w' := by
  have hK : Kn P ⟨g, X⟩ := ⟨fun f fn hf => by
    have h1 := List.all_eq_true.1 hN fn (by
      have := Array.mem_of_getElem? hf
      simpa using this)
    simpa using h1, hX⟩
  unfold yes at h
  split at h
  case h_2 => cases h
  rename_i o fr st hrun
  have hc : CallOk P ⟨g, X⟩ f [] ⟨.nil, g, []⟩ ⟨o, .bool true, fr, st⟩ := run_all hK hm n _ _ hrun
  have hr : Rel ⟨g, X⟩ (fun i => if i < g then some (i, 0) else none) (⟨.nil, g, []⟩ : St) w :=
    ⟨fun i ob h => by simp [Tr.get_nil] at h, fun i j ob ob' b k k' h => by simp [Tr.get_nil] at h, fun i hi => ⟨0, if_pos hi⟩⟩
  have := hc _ w [] 0 hr .nil (fun i h1 _ => if_neg (by have : g ≤ i := h1; omega))
  refine (callsIn_wide (n := 0).1 (show CallsIn Fence.wide 0 P f #[] w _ from this)).mono ?_
  rintro e w' ⟨r', v', rfl, hv, hs⟩
  refine ⟨by rw [VR.closed_eq hv rfl], hs.os, hs.tape, hs.output, hs.size, fun k hk _ => hs.frame k hk fun i kk hi h => ?_⟩
  rcases hs.wlive i hi with h1 | ⟨ob, h1⟩ | h1
  · simp at h1
  · simp [Tr.get_nil] at h1
  · rw [if_neg (by have : g ≤ i := h1; omega)] at h
    cases h
theorem no_ext (P : Program) : ∀ (f : Nat) (e : Ext), findX [] f = some e → ∀ args w, (callFunc f args).run P w = ((semX e args).run P w).andThen fun v w' => .ok (.value v) w' := fun f e h => by cases h
theorem one_ext {P : Program} {f : Nat} {e : Ext} {fn : Func} {X : List (Nat × Ext)} (hf : P.funcs[f]? = some fn) (hn : (fn.name == "runtime.NumGoroutine") = false) (hb : fn.body.isNone = true) (h1 : Extern.findNext fn = none) (h2 : Extern.find fn = some (semX e))
    (hX : ∀ (f : Nat) (e : Ext), findX X f = some e → ∀ args w, (callFunc f args).run P w = ((semX e args).run P w).andThen fun v w' => .ok (.value v) w') :
    ∀ (g : Nat) (e' : Ext), findX ((f, e) :: X) g = some e' → ∀ args w, (callFunc g args).run P w = ((semX e' args).run P w).andThen fun v w' => .ok (.value v) w' := by
  intro g e' h args w
  simp only [findX, cond_eq_ite] at h
  split at h
  · rename_i he
    have he := Nat.eq_of_beq_eq_true he
    subst he
    cases h
    have hn' : ¬ fn.name = "runtime.NumGoroutine" := by simpa using hn
    have hb' : fn.body = none := by simpa using hb
    simp [callFunc, hf, hn', hb', h1, h2]
  · exact hX g e' h args w
end Ev
end Go.Proofs.YtonnbklnibkohacGreatDoor
