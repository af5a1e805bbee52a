/- A closed call: what the run on marks says is what the program does, in whatever world. No program is named here. -/
import Derived.Test.YtgafkphhnlifiaaEv9
import Derived.Test.YtgafkphhnlifiaaEvc
import Derived.Test.YtgafkphhnlifiaaBase
namespace Go.Proofs.Ytgafkphhnlifiaa
namespace Ev
open Go.RowKit

/-- Is just this answered, whatever comes? -/
def isV (v : Value) (x : Option (List Res)) : Bool := match x with
  | some l => l.all fun r => eqV 5 r.v v
  | _ => false
def noNum (P : Program) : Bool := P.funcs.toList.all fun fn => !(fn.name == "runtime.NumGoroutine")
/-- What is said of the functions that the run does not enter. -/
structure Ok (P : Program) (X : List (Nat × Ext)) : Prop where
  ext : ∀ (f : Nat) (e : Ext), findX X f = some e → e ≠ .yes → ∀ args w, (callFunc f args).run P w = ((semX e args).run P w).andThen fun v w' => .ok (.value v) w'
  yes : ∀ (f : Nat), findX X f = some .yes → ∀ w, Calls P f #[] w fun e w' => e = .returned (.bool true) ∧ Chg [] w w'
/-- What is known of calls with closed arguments. -/
structure OkM (P : Program) (M : List (Nat × List Value × Value)) : Prop where
  mem : ∀ m ∈ M, closedL m.2.1 = true ∧ closedV m.2.2 = true ∧ ∀ w, Calls P m.1 m.2.1.toArray w fun e w' => e = .returned m.2.2 ∧ Chg [] w w'
theorem no_mem (P : Program) : OkM P [] := ⟨fun m h => (by cases h)⟩
theorem one_mem {P : Program} {M : List (Nat × List Value × Value)} {f : Nat} {args : List Value} {v : Value} (ha : closedL args = true) (hv : closedV v = true)
    (hf : ∀ w, Calls P f args.toArray w fun e w' => e = .returned v ∧ Chg [] w w') (hM : OkM P M) : OkM P ((f, args, v) :: M) := ⟨fun m h => by
  rcases List.mem_cons.1 h with rfl | h
  · exact ⟨ha, hv, hf⟩
  · exact hM.mem m h⟩
theorem closed_val {P : Program} {X : List (Nat × Ext)} {M : List (Nat × List Value × Value)} {g f n : Nat} {args : List Value} {v : Value} (J : List Nat) (hN : noNum P = true) (hX : Ok P X) (hM : OkM P M)
    (hm : P.follows .mixedOrders = true) (ha : closedL args = true) (hcv : closedV v = true) (h : isV v (runF P ⟨g, X, J, M⟩ n (.call f args ⟨.nil, g, []⟩)) = true) (w : World) :
    Calls P f args.toArray w fun e w' => e = .returned v ∧ Chg [] w w' := by
  have hK : Kn P ⟨g, X, J, M⟩ := ⟨fun f fn hf => by
    have h1 := List.all_eq_true.1 hN fn (by
      have := Array.mem_of_getElem? hf
      simpa using this)
    simpa using h1, fun f hf w => (hX.yes f hf w).mono fun e w' ⟨h1, h2⟩ => ⟨h1, ⟨h2.os, h2.tape, h2.output, h2.size, fun b hb => h2.block b hb (by simp)⟩⟩,
    fun m hm => ⟨(hM.mem m hm).1, (hM.mem m hm).2.1, fun w => ((hM.mem m hm).2.2 w).mono fun e w' ⟨h1, h2⟩ => ⟨h1, ⟨h2.os, h2.tape, h2.output, h2.size, fun b hb => h2.block b hb (by simp)⟩⟩⟩, hX.ext⟩
  rw [runF_eq] at h
  unfold isV at h
  split at h
  case h_2 => cases h
  rename_i L hrun
  have hc : CallOk P ⟨g, X, J, M⟩ f args ⟨.nil, g, []⟩ L := run_all hK hm n _ _ hrun
  have hr : Rel ⟨g, X, J, M⟩ (fun i => if i < g then some (i, 0) else none) (⟨.nil, g, []⟩ : St) w :=
    ⟨fun i ob h => by simp [Tr.get_nil] at h, fun i j ob ob' b k k' h => by simp [Tr.get_nil] at h, fun i hi => ⟨0, if_pos hi⟩⟩
  have := hc _ w args 0 hr (LR.closed args ha) (fun q _ i h1 _ => if_neg (by have : g ≤ i := h1; omega))
  refine (callsIn_wide (n := 0).1 (show CallsIn Fence.wide 0 P f args.toArray w _ from this)).mono ?_
  rintro e w' ⟨q, hq, r', v', rfl, hv, hs⟩
  have hqv : q.v = v := eqV_ok 5 _ _ (List.all_eq_true.1 h q hq)
  rw [hqv] at hv
  refine ⟨by rw [VR.closed_eq hv hcv], hs.os, hs.tape, hs.output, hs.size, fun k hk _ => hs.frame k hk fun i kk hi h => ?_⟩
  rcases hs.wlive i hi with h1 | ⟨ob, h1⟩ | h1
  · simp at h1
  · simp [Tr.get_nil] at h1
  · rw [if_neg (by have : g ≤ i := h1; omega)] at h
    cases h
theorem closed_callM {P : Program} {X : List (Nat × Ext)} {M : List (Nat × List Value × Value)} {g f n : Nat} (J : List Nat) (hN : noNum P = true) (hX : Ok P X) (hM : OkM P M)
    (hm : P.follows .mixedOrders = true) (h : isV (.bool true) (runF P ⟨g, X, J, M⟩ n (.call f [] ⟨.nil, g, []⟩)) = true) (w : World) :
    Calls P f #[] w fun e w' => e = .returned (.bool true) ∧ Chg [] w w' := closed_val J hN hX hM hm rfl rfl h w
theorem closed_callJ {P : Program} {X : List (Nat × Ext)} {g f n : Nat} (J : List Nat) (hN : noNum P = true) (hX : Ok P X)
    (hm : P.follows .mixedOrders = true) (h : isV (.bool true) (runF P ⟨g, X, J, []⟩ n (.call f [] ⟨.nil, g, []⟩)) = true) (w : World) :
    Calls P f #[] w fun e w' => e = .returned (.bool true) ∧ Chg [] w w' := closed_callM J hN hX (no_mem P) hm h w
theorem closed_call {P : Program} {X : List (Nat × Ext)} {g f n : Nat} (hN : noNum P = true) (hX : Ok P X)
    (hm : P.follows .mixedOrders = true) (h : isV (.bool true) (runF P ⟨g, X, [], []⟩ n (.call f [] ⟨.nil, g, []⟩)) = true) (w : World) :
    Calls P f #[] w fun e w' => e = .returned (.bool true) ∧ Chg [] w w' := closed_callJ [] hN hX hm h w
theorem no_ext (P : Program) : Ok P [] := ⟨fun f e h => (by cases h), fun f h => (by cases h)⟩
theorem one_ext {P : Program} {f : Nat} {e : Ext} {fn : Func} {X : List (Nat × Ext)} (hf : P.funcs[f]? = some fn) (hn : (fn.name == "runtime.NumGoroutine") = false) (hb : fn.body.isNone = true) (h1 : Extern.findNext fn = none) (h2 : Extern.find fn = some (semX e))
    (hX : Ok P X) (hy : e ≠ .yes := by intro h; cases h) : Ok P ((f, e) :: X) where
  ext := by
    intro g e' h hne args w
    simp only [findX, cond_eq_ite] at h
    split at h
    · rename_i he
      have he := Nat.eq_of_beq_eq_true he
      subst he
      cases h
      have hn' : ¬ fn.name = "runtime.NumGoroutine" := by simpa using hn
      have hb' : fn.body = none := by simpa using hb
      simp [callFunc, hf, hn', hb', h1, h2]
    · exact hX.ext g e' h hne args w
  yes := by
    intro g h
    simp only [findX, cond_eq_ite] at h
    split at h
    · cases h; exact absurd rfl hy
    · exact hX.yes g h
theorem yes_ext {P : Program} {f : Nat} {X : List (Nat × Ext)} (hf : ∀ w, Calls P f #[] w fun e w' => e = .returned (.bool true) ∧ Chg [] w w') (hX : Ok P X) : Ok P ((f, .yes) :: X) where
  ext := by
    intro g e' h hne args w
    simp only [findX, cond_eq_ite] at h
    split at h
    · cases h; exact absurd rfl hne
    · exact hX.ext g e' h hne args w
  yes := by
    intro g h
    simp only [findX, cond_eq_ite] at h
    split at h
    · rename_i he
      have he := Nat.eq_of_beq_eq_true he
      subst he
      exact hf
    · exact hX.yes g h
end Ev
end Go.Proofs.Ytgafkphhnlifiaa
