/- One operation on marks is one operation of the model's. No program is named here. Code, calls and rounds on marks, and what the model makes of them. No program is named here. -/
import Derived.Test.YtcnbgdplkobenaaGreatDoorZil
import Derived.RangeFuncNested
namespace Go.Proofs.YtcnbgdplkobenaaGreatDoor
section
namespace Ev
set_option linter.unusedVariables false
set_option linter.unusedSimpArgs false
open Go.RowKit
variable {P : Program} {G : Cx} {r : Ren} {st : St} {w : World}

theorem evalL_ok {τ : Tr Value} {ρ : Operand → Value} (hev : ∀ x v, eval G τ x = some v → VR r v (ρ x)) : ∀ {l : List Operand} {vs : List Value}, evalL G τ l = some vs → LR r vs (l.map ρ)
  | [], vs, h => by simp [evalL] at h; subst h; exact .nil
  | x :: l, vs, h => by
    unfold evalL at h
    rw [Option.bind_eq_some_iff] at h; obtain ⟨v, hv, h⟩ := h
    rw [Option.bind_eq_some_iff] at h; obtain ⟨vs', hvs, h⟩ := h
    cases h
    exact .cons (hev x v hv) (evalL_ok hev hvs)
theorem evalP_ok {τ : Tr Value} {ρ : Operand → Value} (hev : ∀ x v, eval G τ x = some v → VR r v (ρ x)) : ∀ {l : List (Nat × Operand)} {vs : List (Nat × Value)}, evalP G τ l = some vs → PR r vs (l.map fun (i, x) => (i, ρ x))
  | [], vs, h => by simp [evalP] at h; subst h; exact .nil
  | (i, x) :: l, vs, h => by
    unfold evalP at h
    rw [Option.bind_eq_some_iff] at h; obtain ⟨v, hv, h⟩ := h
    rw [Option.bind_eq_some_iff] at h; obtain ⟨vs', hvs, h⟩ := h
    cases h
    exact .cons (hev x v hv) (evalP_ok hev hvs)
theorem evalO_ok {τ : Tr Value} {ρ : Operand → Value} (hev : ∀ x v, eval G τ x = some v → VR r v (ρ x)) {x : Option Operand} {y : Option Value} (h : evalO G τ x = some y) : OR r y (x.map ρ) := by
  cases x with
  | none => simp [evalO] at h; subst h; exact .none
  | some x =>
    unfold evalO at h
    rw [Option.bind_eq_some_iff] at h; obtain ⟨v, hv, h⟩ := h
    cases h
    exact .some (hev x v hv)

/-- What an operation's run on the model's side comes to. -/
def Comes1 (G : Cx) (r : Ren) (st : St) (w : World) (v : Value) (st' : St) (res : Result Next) : Prop :=
  ∃ r' w', Step G r st w r' st' w' ∧ ((∃ v', res = .ok (.value v') w' ∧ VR r' v v') ∨ (res = .ok .skip w' ∧ v = undef))
theorem Comes1.same {v : Value} {res : Result Next} (hR : Rel G r st w) (h : ∃ v', res = .ok (.value v') w ∧ VR r v v') : Comes1 G r st w v st res := ⟨r, w, Step.refl hR, .inl h⟩
theorem Comes1.val {v : Value} {st' : St} {s : Sem Value} (h : ∃ r' w' v', s.run P w = .ok v' w' ∧ VR r' v v' ∧ Step G r st w r' st' w') : Comes1 G r st w v st' ((do pure (.value (← s)) : Sem Next).run P w) := by
  obtain ⟨r', w', v', h1, h2, h3⟩ := h
  exact ⟨r', w', h3, .inl ⟨v', by simp [h1], h2⟩⟩
theorem Comes1.quiet {v : Value} {s : Sem Value} (hR : Rel G r st w) (h : ∃ v', s.run P w = .ok v' w ∧ VR r v v') : Comes1 G r st w v st ((do pure (.value (← s)) : Sem Next).run P w) := by
  obtain ⟨v', h1, h2⟩ := h
  exact Comes1.val ⟨r, w, v', h1, h2, Step.refl hR⟩
theorem Comes1.plain {ev : Operand → Option Value} {ρ : Operand → Value} {o : Oper} {v : Value} {st' : St} (hR : Rel G r st w) (hT : ∀ x v, ev x = some v → VR r v (ρ x)) (h : ((plainP P ev o).bind fun v => some (v, st)) = some (v, st')) :
    Comes1 G r st w v st' ((execOp ρ o).run P w) := by
  rw [Option.bind_eq_some_iff] at h; obtain ⟨u, hu, h⟩ := h
  cases h
  obtain ⟨h1, h2⟩ := plain_ok hu hT w
  exact Comes1.same hR ⟨v, h1, VR.closed v h2⟩

theorem nilAhead_ok {t : TypeId} {v : Value} {name : String} {u : Unit}
    (h : ((P.info? t).bind fun i => (i.methods.toList.find? (·.name == name)).bind fun m => m.func.bind fun q => bif m.path.isEmpty then (match q.2 with | true => some () | false => (P.underlying t).bind fun d => match d with | .pointer _ => none | _ => some ()) else none) = some u) (w : World) :
    (nilAhead (P.types.size + Made.depth) t v name).run P w = .ok (some false) w := by
  rw [Option.bind_eq_some_iff] at h; obtain ⟨i, hi, h⟩ := h
  rw [Option.bind_eq_some_iff] at h; obtain ⟨m, hm, h⟩ := h
  rw [Option.bind_eq_some_iff] at h; obtain ⟨⟨f, pr⟩, hfp, h⟩ := h
  obtain ⟨hpath, h⟩ := cond_none h
  have hmm : i.methods.find? (·.name == name) = some m := by rw [← Array.find?_toList]; exact hm
  have hp : m.path.toList = [] := by simpa using hpath
  obtain ⟨n, hn⟩ : ∃ n, P.types.size + Made.depth = n + 1 := ⟨P.types.size + (Made.depth - 1), by unfold Made.depth; omega⟩
  rw [hn]
  unfold nilAhead
  simp only [typeInfo, Sem.run_bind, run_program, Result.andThen_ok, hi, Sem.run_pure, hmm, hp, followBlind, hfp]
  cases pr with
  | true => simp
  | false =>
    dsimp only at h
    rw [Option.bind_eq_some_iff] at h; obtain ⟨d, hd, h⟩ := h
    simp only [Sem.run_bind, run_underlying hd, Result.andThen_ok]
    cases d <;> first | (simp at h; done) | simp
set_option maxHeartbeats 2000000 in
theorem op1_ok {τ : Tr Value} {ρ : Operand → Value} {o : Oper} {v : Value} {st' : St} (hR : Rel G r st w) (hev : ∀ x v, eval G τ x = some v → VR r v (ρ x)) (hf : ∀ i, st.n ≤ i → i < st'.n → r i = none) (h : op1 P G τ o st = some (v, st')) :
    Comes1 G r st w v st' ((execOp ρ o).run P w) := by
  unfold op1 at h
  dsimp only at h
  split at h
  · -- move
    rename_i x e
    rw [Option.bind_eq_some_iff] at h; obtain ⟨u, hu, h⟩ := h
    cases h
    exact Comes1.same hR ⟨ρ x, by simp [execOp, e], hev _ _ hu⟩
  · rename_i x e
    rw [Option.bind_eq_some_iff] at h; obtain ⟨u, hu, h⟩ := h
    cases h
    exact Comes1.same hR ⟨ρ x, by simp [execOp, e], hev _ _ hu⟩
  · -- pick
    rename_i c x y e
    rw [Option.bind_eq_some_iff] at h; obtain ⟨u, hu, h⟩ := h
    have hcu := hev _ _ hu
    split at h
    · rw [Option.bind_eq_some_iff] at h; obtain ⟨u1, hu1, h⟩ := h
      rw [Option.bind_eq_some_iff] at h; obtain ⟨u2, hu2, h⟩ := h
      cases h
      have hc := VR.closed_eq hcu rfl
      exact Comes1.same hR ⟨ρ x, by simp [execOp, e, asBool, hc], hev _ _ hu1⟩
    · rw [Option.bind_eq_some_iff] at h; obtain ⟨u1, hu1, h⟩ := h
      rw [Option.bind_eq_some_iff] at h; obtain ⟨u2, hu2, h⟩ := h
      cases h
      have hc := VR.closed_eq hcu rfl
      exact Comes1.same hR ⟨ρ y, by simp [execOp, e, asBool, hc], hev _ _ hu2⟩
    · cases h
  · -- extract
    rename_i t i e
    rw [Option.bind_eq_some_iff] at h; obtain ⟨u, hu, h⟩ := h
    have hcu := hev _ _ hu
    split at h
    · rename_i vs
      rw [Option.bind_eq_some_iff] at h; obtain ⟨u1, hu1, h⟩ := h
      cases h
      generalize hq : ρ t = tv at hcu
      cases hcu with
      | @tuple xs xs' hl =>
      obtain ⟨v', hv', hvr⟩ := hl.at_ i (by simpa using hu1)
      exact Comes1.same hR ⟨v', by simp [execOp, e, hq, Instr.extract, hv'], hvr⟩
    · cases h
  · -- alloc
    rename_i T e
    rw [Option.bind_eq_some_iff] at h; obtain ⟨z, hz, h⟩ := h
    cases h
    have := Comes1.val (alloc_ok (P := P) hR (hf _ (Nat.le_refl _) (by simp [St.new])) hz)
    simpa [execOp, e] using this
  · -- box
    rename_i T x e
    rw [Option.bind_eq_some_iff] at h; obtain ⟨u, hu, h⟩ := h
    cases h
    have := Comes1.val (box_ok (P := P) (T := T) hR (hf _ (Nat.le_refl _) (by simp [St.new])) (hev _ _ hu))
    simpa [execOp, e] using this
  · -- build
    rename_i t ps e
    rw [Option.bind_eq_some_iff] at h; obtain ⟨pl, hpl, h⟩ := h
    rw [Option.bind_eq_some_iff] at h; obtain ⟨u, hu, h⟩ := h
    cases h
    have := Comes1.quiet hR (build_ok (w := w) hu (evalP_ok hev hpl))
    have e2 : (ps.toList.map fun (i, x) => (i, ρ x)).toArray = ps.map fun (i, x) => (i, ρ x) := by apply Array.toList_inj.1; simp
    rw [e2] at this
    simpa [execOp, e] using this
  · -- buildSlice
    rename_i t n ps e
    rw [Option.bind_eq_some_iff] at h; obtain ⟨pl, hpl, h⟩ := h
    have := Comes1.val (buildSlice_ok (w := w) hR hf h (evalP_ok hev hpl))
    have e2 : (ps.toList.map fun (i, x) => (i, ρ x)).toArray = ps.map fun (i, x) => (i, ρ x) := by apply Array.toList_inj.1; simp
    rw [e2] at this
    simpa [execOp, e] using this
  · -- makeSlice
    rename_i t l c e
    rw [Option.bind_eq_some_iff] at h; obtain ⟨u, hu, h⟩ := h
    rw [Option.bind_eq_some_iff] at h; obtain ⟨u2, hu2, h⟩ := h
    have := Comes1.val (makeSlice_ok (w := w) hR hf h (hev _ _ hu) (hev _ _ hu2))
    simpa [execOp, e] using this
  · -- load
    rename_i t x e
    rw [Option.bind_eq_some_iff] at h; obtain ⟨u, hu, h⟩ := h
    rw [Option.bind_eq_some_iff] at h; obtain ⟨u2, hu2, h⟩ := h
    cases h
    have := Comes1.quiet hR (load_ok (P := P) hR hu2 (hev _ _ hu))
    simpa [execOp, e] using this
  · -- store
    rename_i t x y e
    rw [Option.bind_eq_some_iff] at h; obtain ⟨u, hu, h⟩ := h
    rw [Option.bind_eq_some_iff] at h; obtain ⟨u2, hu2, h⟩ := h
    rw [Option.bind_eq_some_iff] at h; obtain ⟨st2, hst2, h⟩ := h
    cases h
    obtain ⟨w', hw, hstep⟩ := store_ok (P := P) hR hst2 (hev _ _ hu) (hev _ _ hu2)
    exact ⟨r, w', hstep, .inr ⟨by simp [execOp, e, hw], rfl⟩⟩
  · -- nilCheck
    rename_i x e
    rw [Option.bind_eq_some_iff] at h; obtain ⟨u, hu, h⟩ := h
    have hcu := hev _ _ hu
    generalize hq : ρ x = xv at hcu
    split at h
    · cases h
      cases hcu with
      | ptr off sp hr => exact Comes1.same hR ⟨_, by simp [execOp, e, hq], .ptr off sp hr⟩
    · cases h
      cases hcu with
      | func f hf hx hy => exact Comes1.same hR ⟨_, by simp [execOp, e, hq], .func _ hf hx hy⟩
    · cases h
      cases hcu with
      | @iface t _ v2 hv => exact Comes1.same hR ⟨.iface _ v2, by simp [execOp, e, hq], .iface _ hv⟩
    · rw [Option.bind_eq_some_iff] at h; obtain ⟨un, hun, h⟩ := h
      cases h
      cases hcu with
      | @func _ hf xs ys xs' ys' hx hy =>
      refine Comes1.same hR ⟨.func (.method _) ⟨xs'⟩ ⟨ys'⟩, ?_, .func _ hf hx hy⟩
      unfold nilFnP at hun
      split at hun
      · rename_i t v0 tl hxs
        simp only at hxs
        subst hxs
        cases hx with
        | cons hv htl =>
        cases hv with
        | @iface _ _ v2 hv2 =>
        simp [execOp, e, hq, nilAhead_ok hun w (v := v2)]
      · cases hun
    · cases h
  · -- field
    rename_i t x f e
    rw [Option.bind_eq_some_iff] at h; obtain ⟨u, hu, h⟩ := h
    rw [Option.bind_eq_some_iff] at h; obtain ⟨u2, hu2, h⟩ := h
    cases h
    have := Comes1.quiet hR (field_ok (P := P) (w := w) hu2 (hev _ _ hu))
    simpa [execOp, e] using this
  · -- fieldAddr
    rename_i t x f e
    rw [Option.bind_eq_some_iff] at h; obtain ⟨u, hu, h⟩ := h
    rw [Option.bind_eq_some_iff] at h; obtain ⟨u2, hu2, h⟩ := h
    cases h
    have := Comes1.quiet hR (fieldAddr_ok (P := P) (w := w) hu2 (hev _ _ hu))
    simpa [execOp, e] using this
  · -- indexAddr
    rename_i t x i e
    rw [Option.bind_eq_some_iff] at h; obtain ⟨u, hu, h⟩ := h
    rw [Option.bind_eq_some_iff] at h; obtain ⟨u3, hu3, h⟩ := h
    rw [Option.bind_eq_some_iff] at h; obtain ⟨u2, hu2, h⟩ := h
    cases h
    have := Comes1.quiet hR (indexAddr_ok (P := P) (w := w) hu2 (hev _ _ hu) (hev _ _ hu3))
    simpa [execOp, e] using this
  · -- slice
    rename_i t x lo hi mx e
    rw [Option.bind_eq_some_iff] at h; obtain ⟨u, hu, h⟩ := h
    split at h
    · exact Comes1.plain hR hev h
    · exact Comes1.plain hR hev h
    · rw [Option.bind_eq_some_iff] at h; obtain ⟨lo', hlo, h⟩ := h
      rw [Option.bind_eq_some_iff] at h; obtain ⟨hi', hhi, h⟩ := h
      rw [Option.bind_eq_some_iff] at h; obtain ⟨mx', hmx, h⟩ := h
      rw [Option.bind_eq_some_iff] at h; obtain ⟨u2, hu2, h⟩ := h
      cases h
      have := Comes1.quiet hR (slice_ok (P := P) (w := w) hR hu2 (hev _ _ hu) (evalO_ok hev hlo) (evalO_ok hev hhi) (evalO_ok hev hmx))
      simpa [execOp, e] using this
  · -- makeInterface
    rename_i t x e
    rw [Option.bind_eq_some_iff] at h; obtain ⟨u, hu, h⟩ := h
    rw [Option.bind_eq_some_iff] at h; obtain ⟨d, hd, h⟩ := h
    split at h
    · cases h
    · rename_i hni
      cases h
      refine Comes1.same hR ⟨.iface t (ρ x), ?_, .iface t (hev _ _ hu)⟩
      simp only [execOp, e, Instr.makeInterface, Sem.run_bind, run_underlying hd, Result.andThen_ok]
      cases d <;> first | exact absurd rfl (hni _) | rfl
  · -- makeFunc
    rename_i fn x y e
    split at h
    · rename_i fid
      rw [Option.bind_eq_some_iff] at h; obtain ⟨u, hu, h⟩ := h
      rw [Option.bind_eq_some_iff] at h; obtain ⟨u2, hu2, h⟩ := h
      cases h
      have h1 := evalL_ok hev hu
      have h2 := evalL_ok hev hu2
      refine Comes1.same hR ⟨.func (.func fid) (x.map ρ) (y.map ρ), by simp [execOp, e, Instr.makeFunc], ?_⟩
      have e1 : x.map ρ = ⟨x.toList.map ρ⟩ := by apply Array.toList_inj.1; simp
      have e2 : y.map ρ = ⟨y.toList.map ρ⟩ := by apply Array.toList_inj.1; simp
      rw [e1, e2]
      exact .func _ (by simp) h1 h2
    · rename_i fid
      rw [Option.bind_eq_some_iff] at h; obtain ⟨u, hu, h⟩ := h
      rw [Option.bind_eq_some_iff] at h; obtain ⟨u2, hu2, h⟩ := h
      cases h
      have h1 := evalL_ok hev hu
      have h2 := evalL_ok hev hu2
      refine Comes1.same hR ⟨.func (.method fid) (x.map ρ) (y.map ρ), by simp [execOp, e, Instr.makeFunc], ?_⟩
      have e1 : x.map ρ = ⟨x.toList.map ρ⟩ := by apply Array.toList_inj.1; simp
      have e2 : y.map ρ = ⟨y.toList.map ρ⟩ := by apply Array.toList_inj.1; simp
      rw [e1, e2]
      exact .func _ (by simp) h1 h2
    · cases h
  · -- convert
    rename_i src dst x e
    rw [Option.bind_eq_some_iff] at h; obtain ⟨u, hu, h⟩ := h
    split at h
    · rename_i q hq
      cases h
      have := Comes1.val (conv_ok (P := P) hR hf hq (hev _ _ hu))
      simpa [execOp, e] using this
    · exact Comes1.plain hR hev h
  · -- typeAssert
    rename_i x xt T ok e
    rw [Option.bind_eq_some_iff] at h; obtain ⟨u, hu, h⟩ := h
    split at h
    · rename_i q hq
      cases h
      have := Comes1.quiet hR (assert_ok (P := P) (w := w) (xt := xt) hq (hev _ _ hu))
      simpa [execOp, e] using this
    · exact Comes1.plain hR hev h
  · -- binOp
    rename_i op t x y yt e
    rw [Option.bind_eq_some_iff] at h; obtain ⟨u, hu, h⟩ := h
    rw [Option.bind_eq_some_iff] at h; obtain ⟨u2, hu2, h⟩ := h
    split at h
    · rename_i q hq
      cases h
      obtain ⟨h1, h2⟩ := int_ok (P := P) (a := x) (b := y) hq (hev _ _ hu) (hev _ _ hu2) w
      have := Comes1.quiet hR ⟨_, h1, VR.closed (r := r) _ h2⟩
      simpa [execOp, e] using this
    split at h
    · rename_i q hq
      cases h
      obtain ⟨h1, h2⟩ := eq_ok (P := P) (a := x) (b := y) hq (hev _ _ hu) (hev _ _ hu2) w
      have := Comes1.quiet hR ⟨_, h1, VR.closed (r := r) _ h2⟩
      simpa [execOp, e] using this
    · split at h
      · rename_i q hq
        cases h
        obtain ⟨h1, h2⟩ := ptrEq_ok (P := P) (a := x) (b := y) hR hq (hev _ _ hu) (hev _ _ hu2)
        have := Comes1.quiet hR ⟨_, h1, VR.closed (r := r) _ h2⟩
        simpa [execOp, e] using this
      · exact Comes1.plain hR hev h
  · -- range
    rename_i t x e
    rw [Option.bind_eq_some_iff] at h; obtain ⟨u, hu, h⟩ := h
    split at h
    · have := Comes1.val (rangeM_ok (P := P) hR hf h (hev _ _ hu))
      simpa [execOp, e] using this
    · have := Comes1.val (rangeS_ok (P := P) hR hf h (hev _ _ hu))
      simpa [execOp, e] using this
  · -- next
    rename_i it b e
    rw [Option.bind_eq_some_iff] at h; obtain ⟨u, hu, h⟩ := h
    have := Comes1.val (next_ok (P := P) (ty := o.type) hR h (hev _ _ hu))
    simpa [execOp, e] using this
  · -- entry
    rename_i it e
    rw [Option.bind_eq_some_iff] at h; obtain ⟨u, hu, h⟩ := h
    rw [Option.bind_eq_some_iff] at h; obtain ⟨u2, hu2, h⟩ := h
    cases h
    have := Comes1.quiet hR (entry_ok (P := P) hR hu2 (hev _ _ hu))
    simpa [execOp, e] using this
  · -- makeMap
    rename_i t x e
    rw [Option.bind_eq_some_iff] at h; obtain ⟨u, hu, h⟩ := h
    have := Comes1.val (makeMap_ok (P := P) hR hf h (evalO_ok hev hu))
    simpa [execOp, e] using this
  · -- lookup
    rename_i t m k b e
    rw [Option.bind_eq_some_iff] at h; obtain ⟨u, hu, h⟩ := h
    rw [Option.bind_eq_some_iff] at h; obtain ⟨u2, hu2, h⟩ := h
    rw [Option.bind_eq_some_iff] at h; obtain ⟨u3, hu3, h⟩ := h
    cases h
    have := Comes1.quiet hR (lookup_ok (P := P) hR hu3 (hev _ _ hu) (hev _ _ hu2))
    simpa [execOp, e] using this
  · -- mapUpdate
    rename_i t m k x e
    rw [Option.bind_eq_some_iff] at h; obtain ⟨u, hu, h⟩ := h
    rw [Option.bind_eq_some_iff] at h; obtain ⟨u2, hu2, h⟩ := h
    rw [Option.bind_eq_some_iff] at h; obtain ⟨u3, hu3, h⟩ := h
    rw [Option.bind_eq_some_iff] at h; obtain ⟨st2, hst2, h⟩ := h
    cases h
    obtain ⟨w', hw, hstep⟩ := mapUpdate_ok (P := P) hR hst2 (hev _ _ hu) (hev _ _ hu2) (hev _ _ hu3)
    exact ⟨r, w', hstep, .inr ⟨by simp [execOp, e, hw], rfl⟩⟩
  · -- insert
    rename_i t m k x e
    rw [Option.bind_eq_some_iff] at h; obtain ⟨u, hu, h⟩ := h
    rw [Option.bind_eq_some_iff] at h; obtain ⟨u2, hu2, h⟩ := h
    rw [Option.bind_eq_some_iff] at h; obtain ⟨u3, hu3, h⟩ := h
    rw [Option.bind_eq_some_iff] at h; obtain ⟨st2, hst2, h⟩ := h
    cases h
    obtain ⟨w', hw, hstep⟩ := mapUpdate_ok (P := P) hR hst2 (hev _ _ hu) (hev _ _ hu2) (hev _ _ hu3)
    exact ⟨r, w', hstep, .inr ⟨by simp [execOp, e, hw], rfl⟩⟩
  · -- builtins
    rename_i b args argTypes e
    rw [Option.bind_eq_some_iff] at h; obtain ⟨vs, hvs, h⟩ := h
    have hl := evalL_ok hev hvs
    split at h
    · rename_i s x
      obtain ⟨s', x', hargs, hs, hx⟩ : ∃ s' x', args.map ρ = #[s', x'] ∧ VR r s s' ∧ VR r x x' := by
        generalize hm : args.toList.map ρ = l at hl
        cases hl with
        | cons h1 hl =>
        cases hl with
        | cons h2 hl =>
        cases hl
        exact ⟨_, _, by apply Array.toList_inj.1; simpa using hm, h1, h2⟩
      have := Comes1.val (append_ok (ty := o.type) hR hf h hs hx)
      simpa [execOp, e, resolve, invoke, builtin, hargs] using this
    · rename_i s x
      obtain ⟨s', x', hargs, hs, hx⟩ : ∃ s' x', args.map ρ = #[s', x'] ∧ VR r s s' ∧ VR r x x' := by
        generalize hm : args.toList.map ρ = l at hl
        cases hl with
        | cons h1 hl =>
        cases hl with
        | cons h2 hl =>
        cases hl
        exact ⟨_, _, by apply Array.toList_inj.1; simpa using hm, h1, h2⟩
      obtain ⟨w', v', h1, h2, h3⟩ := copy_ok (P := P) (ty := o.type) hR h hs hx
      have := Comes1.val ⟨r, w', v', h1, h2, h3⟩
      simpa [execOp, e, resolve, invoke, builtin, hargs] using this
    · -- delete
      rename_i m k
      obtain ⟨m', k', hargs, hm, hk⟩ : ∃ m' k', args.map ρ = #[m', k'] ∧ VR r m m' ∧ VR r k k' := by
        generalize hm : args.toList.map ρ = l at hl
        cases hl with
        | cons h1 hl =>
        cases hl with
        | cons h2 hl =>
        cases hl
        exact ⟨_, _, by apply Array.toList_inj.1; simpa using hm, h1, h2⟩
      have := Comes1.val (delete_ok (P := P) (ty := o.type) hR h hm hk)
      simpa [execOp, e, resolve, invoke, builtin, hargs] using this
    · -- len of a map
      rename_i i
      obtain ⟨x', hargs, hx⟩ : ∃ x', args.map ρ = #[x'] ∧ VR r (.map (some i)) x' := by
        generalize hm : args.toList.map ρ = l at hl
        cases hl with
        | cons h1 hl =>
        cases hl
        exact ⟨_, by apply Array.toList_inj.1; simpa using hm, h1⟩
      split at h
      · rename_i t tl ht
        rw [Option.bind_eq_some_iff] at h; obtain ⟨⟨kt, elem⟩, hd, h⟩ := h
        rw [Option.bind_eq_some_iff] at h; obtain ⟨⟨es, c⟩, hmp, h⟩ := h
        cases h
        have hd := mapDesc_ok hd
        have ht0 : argTypes[0]? = some t := by rw [← Array.getElem?_toList, ht]; rfl
        obtain ⟨hg, b, kk, es', hr, hE, hb⟩ := map_at hR hmp
        cases hx with
        | map hr2 =>
        rw [hr] at hr2
        cases hr2
        have hget := getObj_run (P := P) hb (fun _ _ _ h => by cases h)
        refine Comes1.same hR ⟨.int .i64 (es.length : Nat), ?_, .int _ _⟩
        simp [execOp, e, resolve, invoke, builtin, hargs, Builtin.len_, ht0, run_underlying hd, hget, hE.length, goInt]
      · cases h
    · -- clear
      rename_i x
      obtain ⟨x', hargs, hx⟩ : ∃ x', args.map ρ = #[x'] ∧ VR r x x' := by
        generalize hm : args.toList.map ρ = l at hl
        cases hl with
        | cons h1 hl =>
        cases hl
        exact ⟨_, by apply Array.toList_inj.1; simpa using hm, h1⟩
      have := Comes1.val (clear_ok (P := P) (ty := o.type) hR h hx)
      simpa [execOp, e, resolve, invoke, builtin, hargs] using this
    · -- len
      rename_i ad n c
      obtain ⟨x', hargs, hx⟩ : ∃ x', args.map ρ = #[x'] ∧ VR r (.slice (some ad) n c) x' := by
        generalize hm : args.toList.map ρ = l at hl
        cases hl with
        | cons h1 hl =>
        cases hl
        exact ⟨_, by apply Array.toList_inj.1; simpa using hm, h1⟩
      split at h
      · rename_i t tl ht
        rw [Option.bind_eq_some_iff] at h; obtain ⟨d, hd, h⟩ := h
        split at h
        · rename_i elem
          cases h
          have ht0 : argTypes[0]? = some t := by rw [← Array.getElem?_toList, ht]; rfl
          refine Comes1.same hR ⟨.int .i64 (n : Int), ?_, .int _ _⟩
          cases hx <;> simp [execOp, e, resolve, invoke, builtin, hargs, Builtin.len_, ht0, run_underlying hd, goInt]
        · cases h
      · cases h
    · -- cap
      rename_i ad n c
      obtain ⟨x', hargs, hx⟩ : ∃ x', args.map ρ = #[x'] ∧ VR r (.slice (some ad) n c) x' := by
        generalize hm : args.toList.map ρ = l at hl
        cases hl with
        | cons h1 hl =>
        cases hl
        exact ⟨_, by apply Array.toList_inj.1; simpa using hm, h1⟩
      split at h
      · rename_i t tl ht
        rw [Option.bind_eq_some_iff] at h; obtain ⟨d, hd, h⟩ := h
        split at h
        · rename_i elem
          simp only [cond_eq_ite] at h
          split at h
          · cases h
          rename_i hbig
          have hbig : ¬ big ≤ c := fun h => hbig (Nat.ble_eq_true_of_le h)
          cases h
          have ht0 : argTypes[0]? = some t := by rw [← Array.getElem?_toList, ht]; rfl
          refine Comes1.same hR ⟨.int .i64 (c : Int), ?_, .int _ _⟩
          cases hx with
          | slice _ _ _ _ _ => simp [execOp, e, resolve, invoke, builtin, hargs, Builtin.cap_, ht0, run_underlying hd, goInt]
          | sliceBig _ _ _ _ hc => exact absurd hc hbig
          | sliceEnd _ _ _ _ hc => exact absurd hc hbig
        · cases h
      · cases h
    · exact Comes1.plain hR hev h
  · cases h
  · exact Comes1.plain hR hev h
end Ev
end
section
namespace Ev
set_option linter.unusedVariables false
set_option linter.unusedSimpArgs false
open Go.RowKit

def WF (ro : Option Nat) : Fence := { fn := fun _ => True, depth := none, alive := false, round := ro }
def outE : Out → Exit
  | .normal => .normal
  | .exit i => .exit i
  | .goto l => .goto l
  | .ret => .ret
inductive DR (r : Ren) : List Nat → List Deferred → Prop
  | nil : DR r [] []
  | cons {i b k l l'} (h : r i = some (b, k)) (hl : DR r l l') : DR r (i :: l) ({ target := .collected b, args := #[] } :: l')
theorem DR.mono {r r' : Ren} (h : r.le r') : ∀ {l l'}, DR r l l' → DR r' l l'
  | _, _, .nil => .nil
  | _, _, .cons hi hl => .cons (h _ _ hi) (DR.mono h hl)
structure FrR (r : Ren) (fr : Fr) (a : Act) : Prop where
  size : a.tmps.size = fr.N
  tmps : TR r fr.τ a.tmps
  defers : DR r fr.ds a.defers
theorem FrR.mono {r r' : Ren} (h : r.le r') {fr a} (k : FrR r fr a) : FrR r' fr a := ⟨k.size, k.tmps.mono h, k.defers.mono h⟩
def RdR (r : Ren) (rd ro : Option Nat) : Prop := (rd = none ∧ ro = none) ∨ ∃ l b k, rd = some l ∧ ro = some b ∧ r l = some (b, k)
theorem RdR.mono {r r' : Ren} (h : r.le r') {rd ro} (k : RdR r rd ro) : RdR r' rd ro := by
  rcases k with k | ⟨l, b, kk, h1, h2, h3⟩
  · exact .inl k
  · exact .inr ⟨l, b, kk, h1, h2, h _ _ h3⟩
def Fresh (r : Ren) (lo hi : Nat) : Prop := ∀ i, lo ≤ i → i < hi → r i = none
theorem Step.rest {G r st w r' st' w'} (h : Step G r st w r' st' w') {hi : Nat} (hf : Fresh r st.n hi) : Fresh r' st'.n hi := fun i h1 h2 => by
  cases h3 : r' i with
  | none => rfl
  | some x =>
    have := h.new i (hf i (Nat.le_trans h.mono h1) h2) (by simp [h3])
    omega
theorem Fresh.less {r : Ren} {lo hi hi' : Nat} (h : Fresh r lo hi) (hl : hi' ≤ hi) : Fresh r lo hi' := fun i h1 h2 => h i h1 (Nat.lt_of_lt_of_le h2 hl)

def CPost (G : Cx) (r : Ren) (st : St) (w : World) (res : Res) (e : Exit) (a' : Act) (w' : World) : Prop := e = outE res.out ∧ ∃ r', Step G r st w r' res.st w' ∧ FrR r' res.fr a'
/-- One of these. -/
def CPostL (G : Cx) (r : Ren) (st : St) (w : World) (L : List Res) (e : Exit) (a' : Act) (w' : World) : Prop := ∃ res ∈ L, CPost G r st w res e a' w'
def FreshL (r : Ren) (lo : Nat) (L : List Res) : Prop := ∀ res ∈ L, Fresh r lo res.st.n
/-- The rest of a scope. -/
def scIn (F : Fence) (n : Nat) (P : Program) (all c : Code) (Q : Exit → Act → World → Prop) (a : Act) (w : World) : Prop :=
  ∀ (b : Frame) (k : List Item) (cs : List Frame), b.roundOf = F.round → F.fn b.fn → F.room (cs.length + 1 + n) →
    ∃ e a' w', Q e a' w' ∧ ArrivesIn (Machine.fenced P F) P (lone (b.atR a (.code c :: .inScope all :: k)) cs w) b k cs e a' w'
def CodeOk (P : Program) (G : Cx) (c : Code) (rd : Option Nat) (fr : Fr) (st : St) (L : List Res) : Prop :=
  ∀ r w a ro m, Rel G r st w → FrR r fr a → RdR r rd ro → FreshL r st.n L → c.wpIn (WF ro) m P (CPostL G r st w L) a w
/-- A loop's next round, and on. -/
def lpIn (F : Fence) (n : Nat) (P : Program) (c : Code) (Q : Exit → Act → World → Prop) (a : Act) (w : World) : Prop :=
  ∀ (b : Frame) (k : List Item) (cs : List Frame), b.roundOf = F.round → F.fn b.fn → F.room (cs.length + 1 + n) →
    ∃ e a' w', Q e a' w' ∧ ArrivesIn (Machine.fenced P F) P (lone (b.atR a (.code c :: .inLoop c :: k)) cs w) b k cs e a' w'
def LoopOk (P : Program) (G : Cx) (c : Code) (rd : Option Nat) (fr : Fr) (st : St) (L : List Res) : Prop :=
  ∀ r w a ro m, Rel G r st w → FrR r fr a → RdR r rd ro → FreshL r st.n L → lpIn (WF ro) m P c (CPostL G r st w L) a w
def ScOk (P : Program) (G : Cx) (all c : Code) (rd : Option Nat) (fr : Fr) (st : St) (L : List Res) : Prop :=
  ∀ r w a ro m, Rel G r st w → FrR r fr a → RdR r rd ro → FreshL r st.n L → scIn (WF ro) m P all c (CPostL G r st w L) a w
def CallOk (P : Program) (G : Cx) (f : Nat) (args : List Value) (st : St) (L : List Res) : Prop :=
  ∀ r w args' m, Rel G r st w → LR r args args' → FreshL r st.n L →
    CallsIn (WF none) m P f args'.toArray w fun e w' => ∃ res ∈ L, ∃ r' v', e = .returned v' ∧ VR r' res.v v' ∧ Step G r st w r' res.st w'
def TaskOk (P : Program) (G : Cx) : Task → List Res → Prop
  | .code c rd fr st, res => CodeOk P G c rd fr st res ∧ ∀ b, c = .loop b → LoopOk P G b rd fr st res
  | .inSc all c rd fr st, res => ScOk P G all c rd fr st res
  | .call f args st, res => CallOk P G f args st res
def RecOk (P : Program) (G : Cx) (rec : Task → Option (List Res)) : Prop := ∀ t res, rec t = some res → TaskOk P G t res
theorem goM_mem {α β : Type} {f : α → Option (List β)} : ∀ {l : List α} {L : List β}, goM f l = some L → ∀ a ∈ l, ∃ La, f a = some La ∧ ∀ b ∈ La, b ∈ L
  | [], L, h, a, ha => by simp at ha
  | x :: l, L, h, a, ha => by
    unfold goM at h
    rw [Option.bind_eq_some_iff] at h; obtain ⟨La, hx, h⟩ := h
    rw [Option.bind_eq_some_iff] at h; obtain ⟨Lb, hl, h⟩ := h
    cases h
    rcases List.mem_cons.1 ha with rfl | ha
    · exact ⟨La, hx, fun b hb => List.mem_append_left _ hb⟩
    · obtain ⟨Lc, h1, h2⟩ := goM_mem hl a ha
      exact ⟨Lc, h1, fun b hb => List.mem_append_right _ (h2 b hb)⟩
theorem bindM_some {α β : Type} {x : Option (List α)} {f : α → Option (List β)} {L : List β} (h : bindM x f = some L) : ∃ l, x = some l ∧ ∀ a ∈ l, ∃ La, f a = some La ∧ ∀ b ∈ La, b ∈ L := by
  unfold bindM at h
  rw [Option.bind_eq_some_iff] at h; obtain ⟨l, hx, h⟩ := h
  exact ⟨l, hx, goM_mem h⟩
theorem lift1_some {α : Type} {x : Option α} {L : List α} (h : lift1 x = some L) : ∃ a, x = some a ∧ L = [a] := by
  unfold lift1 at h
  rw [Option.bind_eq_some_iff] at h; obtain ⟨a, hx, h⟩ := h
  cases h
  exact ⟨a, hx, rfl⟩
theorem det_some {α : Type} {x : Option (List α)} {a : α} (h : det x = some a) : x = some [a] := by
  unfold det at h
  rw [Option.bind_eq_some_iff] at h; obtain ⟨l, hx, h⟩ := h
  split at h
  · cases h; exact hx
  · cases h
def semX : Ext → Array Value → Sem Value
  | .load k => Extern.Atomic.loadT (.int k)
  | .store => Extern.Atomic.storeT
  | .swap k => Extern.Atomic.swapT (.int k)
  | .cas k => Extern.Atomic.casT (.int k)
  | .add k => Extern.Atomic.update (Op.intArith .add) k true
  | .compare => Extern.BytealgCompare.compare
  | .overlaps ps rs => Extern.SlicesOverlaps.overlaps ps.toArray rs.toArray
  | .yes => fun _ => pure undef
/-- All that was there is as it was. -/
structure Kept (w w' : World) : Prop where
  os : w'.os = w.os
  tape : w'.tape = w.tape
  output : w'.output = w.output
  size : w.heap.size ≤ w'.heap.size
  heap : ∀ b, b < w.heap.size → w'.heap[b]? = w.heap[b]?
theorem Kept.step {G : Cx} {r : Ren} {st : St} {w w' : World} (hR : Rel G r st w) (h : Kept w w') : Step G r st w r st w' :=
  { Step.refl hR with
    rel := ⟨fun i o hi => let ⟨b, k, h1, h2⟩ := hR.obj i o hi; ⟨b, k, h1, h2.keep (Ren.le_refl r) (h.heap b h2.lt)⟩, hR.inj, hR.glob⟩
    frame := fun b hb _ => h.heap b hb
    size := h.size
    os := h.os
    tape := h.tape
    output := h.output }
/-- What is known of the program: no function asks for the goroutines' number; which ones the model stands in for. -/
structure Kn (P : Program) (G : Cx) : Prop where
  num : ∀ (f : Nat) (fn : Func), P.funcs[f]? = some fn → (fn.name == "runtime.NumGoroutine") = false
  yes : ∀ (f : Nat), findX G.X f = some .yes → ∀ w, Calls P f #[] w fun e w' => e = .returned (.bool true) ∧ Kept w w'
  mem : ∀ m ∈ G.M, closedL m.2.1 = true ∧ closedV m.2.2 = true ∧ ∀ w, Calls P m.1 m.2.1.toArray w fun e w' => e = .returned m.2.2 ∧ Kept w w'
  ext : ∀ (f : Nat) (e : Ext), findX G.X f = some e → e ≠ .yes → ∀ args w, (callFunc f args).run P w = ((semX e args).run P w).andThen fun v w' => .ok (.value v) w'

theorem chk_ok {n : Nat} {x : Option (List Res)} {L : List Res} (h : chk n x = some L) : x = some L ∧ (∃ r, r ∈ L) ∧ ∀ r ∈ L, n ≤ r.st.n := by
  unfold chk at h
  rw [Option.bind_eq_some_iff] at h; obtain ⟨q, hq, h⟩ := h
  split at h
  · cases h
  · obtain ⟨hb, h⟩ := cond_none h
    cases h
    simp only [Bool.and_eq_true, List.all_eq_true] at hb
    refine ⟨hq, ⟨_, List.mem_cons_self ..⟩, fun r hr => ?_⟩
    rcases List.mem_cons.1 hr with rfl | hr
    · exact Nat.le_of_ble_eq_true hb.1
    · exact Nat.le_of_ble_eq_true (hb.2 r hr)
theorem chkO_ok {n : Nat} {x : Option (List (Fr × St))} {L : List (Fr × St)} (h : chkO n x = some L) : x = some L ∧ (∃ r, r ∈ L) ∧ ∀ r ∈ L, n ≤ r.2.n := by
  unfold chkO at h
  rw [Option.bind_eq_some_iff] at h; obtain ⟨q, hq, h⟩ := h
  split at h
  · cases h
  · obtain ⟨hb, h⟩ := cond_none h
    cases h
    simp only [Bool.and_eq_true, List.all_eq_true] at hb
    refine ⟨hq, ⟨_, List.mem_cons_self ..⟩, fun r hr => ?_⟩
    rcases List.mem_cons.1 hr with rfl | hr
    · exact Nat.le_of_ble_eq_true hb.1
    · exact Nat.le_of_ble_eq_true (hb.2 r hr)

theorem TR.put {r : Ren} {τ : Tr Value} {tmps : Array Value} {t : Nat} {v v' : Value} (h : TR r τ tmps) (ht : t < tmps.size) (hv : VR r v v') : TR r (τ.put t (some v)) (tmps.setIfInBounds t v') := by
  intro j
  rw [Tr.get_put]
  by_cases e : j = t
  · subst e
    rw [if_pos rfl]
    have e : (tmps.setIfInBounds j v').getD j undef = v' := by simp [Array.getD, ht]
    rw [e]
    exact hv
  · rw [if_neg e]
    have e2 : (tmps.setIfInBounds t v').getD j undef = tmps.getD j undef := by
      rw [Array.getD_eq_getD_getElem?, Array.getD_eq_getD_getElem?, Array.getElem?_setIfInBounds_ne (fun h => e h.symm)]
    rw [e2]
    exact h j
theorem put_ok {r : Ren} {fr fr' : Fr} {a : Act} {d : Option Tmp} {v v' : Value} (h : put fr d v = some fr') (hF : FrR r fr a) (hv : VR r v v') : FrR r fr' (a.put d v') := by
  unfold put at h
  cases d with
  | none => cases h; exact hF
  | some t =>
    obtain ⟨hb, h⟩ := cond_none h
    cases h
    have ht := blt_lt hb
    exact ⟨by simp [Act.put, hF.size], TR.put hF.tmps (by rw [hF.size]; exact ht) hv, hF.defers⟩
theorem undef_ok {r : Ren} : VR r undef undef := .tuple .nil
theorem wanted_ok {r : Ren} {τ : Tr Value} {tmps : Array Value} {ops : List Oper} {o : Oper} (hT : TR r τ tmps) : wantedP ops τ o = Region.wanted o (yielded ops.toArray tmps) := by
  unfold wantedP Region.wanted
  cases hg : o.guard with
  | none => rfl
  | some x =>
    obtain ⟨j, want⟩ := x
    simp only [yielded, List.getElem?_toArray]
    cases ho : ops[j]? with
    | none => rfl
    | some oj =>
      cases hd : oj.dst with
      | none => simp [hd]
      | some d =>
        have hv := hT d
        simp only [Option.bind_some, hd]
        have e : tmps.getD d undef = (tmps[d]?).getD undef := by simp [Array.getD_eq_getD_getElem?]
        rw [e] at hv
        generalize (τ.get d).getD undef = x at hv
        cases hx : tmps[d]? with
        | none =>
          rw [hx] at hv
          have : x = undef := by
            simp [undef] at hv
            cases hv with
            | tuple h => cases h; rfl
          subst this
          rfl
        | some y =>
          rw [hx] at hv
          simp at hv
          cases hv <;> first | rfl | (rename_i b; cases b <;> cases want <;> rfl)

/-- One operation, and on. -/
def OpK (P : Program) (G : Cx) (r : Ren) (st : St) (w : World) (v : Value) (st' : St) (F : Fence) (m : Nat) (o : Oper) (ρ : Operand → Value) : Prop :=
  ∀ (a : Act) (K : Act → World → Prop) (Q : Exit → Act → World → Prop), (∀ r' w' v', Step G r st w r' st' w' → VR r' v v' → K (a.put o.dst v') w') → o.uponIn F m P a K Q ((execOp ρ o).run P w)
theorem OpK.of_comes1 {P G r st w v st' F m o ρ} (h : Comes1 G r st w v st' ((execOp ρ o).run P w)) : OpK P G r st w v st' F m o ρ := by
  intro a K Q hK
  obtain ⟨r', w', hs, h | h⟩ := h
  · obtain ⟨v', h1, h2⟩ := h
    rw [h1, Oper.uponIn_value]
    exact hK _ _ _ hs h2
  · obtain ⟨h1, rfl⟩ := h
    rw [h1, Oper.uponIn_skip]
    exact hK _ _ _ hs undef_ok

/-- What a lead stands for on the model's side. -/
def LeadK (P : Program) (r : Ren) (s : Sem Next) : Lead → Prop
  | .fn k al => ∃ al', LR r al al' ∧ ∀ w, s.run P w = (callFunc k al'.toArray).run P w
  | .round l al => ∃ b k al', r l = some (b, k) ∧ LR r al al' ∧ ∀ w, s.run P w = (Instr.yield b al'.toArray).run P w
theorem lead_ok {P : Program} {r : Ren} {f f' : Value} {args args' : List Value} {ld : Lead} (h : leadP P f args = some ld) (hf : VR r f f') (ha : LR r args args') :
    LeadK P r (do let d ← Deferred.ofValue f' args'.toArray; invoke d.target d.args) ld := by
  unfold leadP at h
  split at h
  · cases h
    cases hf with
    | @func _ _ xs ys xs' ys' hx hy =>
    refine ⟨xs' ++ args' ++ ys', (hx.append ha).append hy, fun w => ?_⟩
    simp [Deferred.ofValue, invoke]
  · obtain ⟨hb, h⟩ := cond_none h
    cases h
    simp only [Bool.and_eq_true] at hb
    cases hf with
    | @yield i b k hr xs ys xs' ys' hx hy =>
    have e1 : xs' = [] := by
      have := hx.length
      have h1 : xs = [] := by simpa using hb.1
      subst h1
      simpa using this
    subst e1
    refine ⟨b, k, args', hr, ha, fun w => ?_⟩
    simp [Deferred.ofValue, invoke]
    | func _ hf _ _ => exact absurd rfl (hf _)
  · cases h
theorem method_ok {P : Program} {r : Ren} {x x' : Value} {name : String} {args args' : List Value} {ld : Lead} (h : methodP P x name args = some ld) (hx : VR r x x') (ha : LR r args args') :
    LeadK P r (invoke (.fn (.method name) #[]) (#[x'] ++ args'.toArray)) ld := by
  unfold methodP at h
  split at h
  · rename_i t v
    rw [Option.bind_eq_some_iff] at h; obtain ⟨i, hi, h⟩ := h
    rw [Option.bind_eq_some_iff] at h; obtain ⟨m, hm, h⟩ := h
    rw [Option.bind_eq_some_iff] at h; obtain ⟨⟨f, pr⟩, hfp, h⟩ := h
    obtain ⟨hpath, h⟩ := cond_none h
    rw [Option.bind_eq_some_iff] at h; obtain ⟨d, hd, h⟩ := h
    cases hx with
    | @iface _ _ v' hv =>
    have hmm : i.methods.find? (·.name == name) = some m := by rw [← Array.find?_toList]; exact hm
    have hp : m.path.toList = [] := by simpa using hpath
    have key : ∀ w, (receiverAt t (.val v') pr (if m.path.isEmpty then some ((name.splitOn ".").getLastD name) else none)).run P w = .ok v' w → (invoke (.fn (.method name) #[]) (#[.iface t v'] ++ args'.toArray)).run P w = (callFunc f (v' :: args').toArray).run P w := by
      intro w hrec
      have hmeth : (method (P.types.size + Made.depth) t v' name).run P w = .ok (f, v') w := by
        obtain ⟨n, hn⟩ : ∃ n, P.types.size + Made.depth = n + 1 := ⟨P.types.size + (Made.depth - 1), by unfold Made.depth; omega⟩
        rw [hn]
        unfold method
        simp only [typeInfo, Sem.run_bind, run_program, Result.andThen_ok, hi, Sem.run_pure, hmm, hp, follow, hfp, hrec]
      simp only [invoke]
      have e : (#[.iface t v'] ++ args'.toArray : Array Value)[0]? = some (.iface t v') := by simp
      simp only [e, callMethod, Sem.run_bind, run_program, Result.andThen_ok, hmeth]
      congr 2
      apply Array.toList_inj.1
      simp
    split at h
    · cases h
      rename_i hd1
      refine ⟨v' :: args', .cons hv ha, fun w => key w ?_⟩
      simp [receiverAt, run_underlying hd, Place.get]
    · cases h
    · cases h
      rename_i hnp
      refine ⟨v' :: args', .cons hv ha, fun w => key w ?_⟩
      simp only [receiverAt, Sem.run_bind, run_underlying hd, Result.andThen_ok]
      cases d <;> first | exact absurd rfl (hnp _ rfl) | simp [Place.get]
    · cases h
  · cases h

/-- A record's turn. -/
theorem loop_turn {P : Program} {G r st w i b k state pending τ N ps asg body ar state' pending'} (hR : Rel G r st w) (hi : st.H.get i = some (.loop state pending τ N ps asg body ar)) (hr : r i = some (b, k)) :
    ∃ lp, lp.state = state ∧ lp.pending = pending ∧ lp.params = ps ∧ lp.assign = asg ∧ lp.body = body ∧ lp.tmps.size = N ∧ TR r τ lp.tmps ∧ w.heap[b]? = some (.loop lp) ∧ (∃ kD, r ar = some (lp.defers, kD)) ∧
      Step G r st w r (st.upd i (.loop state' pending' τ N ps asg body ar)) (w.putObj b (.loop { lp with state := state', pending := pending' })) := by
  obtain ⟨b2, k2, hr2, fn, tmps, D, kD, h1, h2, h3, h4⟩ := hR.obj i _ hi
  rw [hr] at hr2
  cases hr2
  exact ⟨_, rfl, rfl, rfl, rfl, rfl, h2, h3, h4, ⟨kD, h1⟩, Step.turn hR hi hr ⟨fn, tmps, D, kD, h1, h2, h3, World.putObj_heap_same (Array.getElem?_eq_some_iff.1 h4).1⟩ (fun c hc => World.putObj_heap_other hc) (by simp) rfl rfl rfl⟩
theorem seed_ok {r : Ren} : ∀ {ts : List Tmp} {vs vs' : List Value} {τ : Tr Value} {tmps : Array Value}, TR r τ tmps → (∀ t ∈ ts, t < tmps.size) → LR r vs vs' →
    TR r (seedTr τ ts vs) ((ts.zip vs').foldl (fun tmps (x : Tmp × Value) => tmps.setIfInBounds x.1 x.2) tmps) ∧ ((ts.zip vs').foldl (fun tmps (x : Tmp × Value) => tmps.setIfInBounds x.1 x.2) tmps).size = tmps.size
  | [], vs, vs', τ, tmps, h, _, hv => by simp [seedTr]; exact h
  | t :: ts, [], _, τ, tmps, h, _, .nil => by simp [seedTr]; exact h
  | t :: ts, v :: vs, v' :: vs', τ, tmps, h, hts, .cons hv hl => by
    have := seed_ok (ts := ts) (TR.put h (hts t (by simp)) hv) (fun t' ht' => by simpa using hts t' (by simp [ht'])) hl
    simp only [seedTr, List.zip_cons_cons, List.foldl_cons]
    exact ⟨this.1, by simpa using this.2⟩

theorem cell_ok {G : Cx} {r : Ren} {st : St} {w : World} {a a' v : Value} {i off : Nat} {cs : List Value} {T : TypeId} {m : Option Nat} (hR : Rel G r st w) (h : cellP a st = some (i, off, cs, T, m, v)) (ha : VR r a a') :
    ∃ b k v', a' = .pointer (some ⟨b, off, none⟩) ∧ st.cells i = some (cs, T, m) ∧ r i = some (b, k) ∧ w.cell? ⟨b, off, none⟩ = some v' ∧ VR r v v' ∧ w.frozen? ⟨b, off, none⟩ = false ∧ w.shape? b ≠ none := by
  unfold cellP at h
  split at h
  · rename_i i0 off0
    rw [Option.bind_eq_some_iff] at h; obtain ⟨⟨cs0, T0, m0⟩, hc, h⟩ := h
    rw [Option.bind_eq_some_iff] at h; obtain ⟨v0, hv0, h⟩ := h
    cases h
    obtain ⟨hgi, b, k, hr, cs', rest, fz, hl, hb, hfz, _⟩ := hR.cells hc
    cases ha with
    | ptr _ _ hr2 =>
    rw [hr] at hr2
    cases hr2
    obtain ⟨v', hv', hvr⟩ := hl.at_ off hv0
    have hlt : off < (cs' ++ rest).length := by
      have := (List.getElem?_eq_some_iff.1 hv').1
      simp
      omega
    have hfro : w.frozen? ⟨b, off, none⟩ = false := by
      obtain ⟨lo, hi'⟩ := fz
      simp only [World.frozen?, hb, Bool.and_eq_false_iff, decide_eq_false_iff_not]
      rcases hfz.or with hq | hq
      · cases hq
        exact .inr (by omega)
      · simp only at hq
        exact .inl (by omega)
    refine ⟨b, k, v', rfl, hc, hr, ?_, hvr, hfro, by simp [World.shape?, hb]⟩
    rw [cell_row hb, List.getElem?_append_left (List.getElem?_eq_some_iff.1 hv').1]
    exact hv'
  · cases h
theorem one_store {G : Cx} {P : Program} {r : Ren} {st : St} {w : World} {i b k off : Nat} {cs cs' : List Value} {T : TypeId} {m : Option Nat} {v v' : Value} (hR : Rel G r st w) (hc : st.cells i = some (cs, T, m)) (hr : r i = some (b, k)) (ho : over cs off [v] = some cs') (hv : VR r v v') (h1 : one v = true) :
    ∃ w', (store ⟨b, off, none⟩ v' .atomic).run P w = .ok () w' ∧ Step G r st w r (st.upd i (.cells cs' T m)) w' := by
  obtain ⟨w', h2, h3⟩ := write_ok (P := P) (vs' := [v']) hR hc hr ho (.cons hv .nil) (by simp [allOne, h1])
  refine ⟨w', ?_, h3⟩
  have e : (store (⟨b, off, none⟩ : Addr) v').run P w = .ok () w' := by
    have h4 := h2
    simp only [storeCells, Sem.run_bind, Addr.add_zero'] at h4
    cases hq : (store (⟨b, off, none⟩ : Addr) v').run P w with
    | ok u w2 => rw [hq] at h4; simp at h4; rw [h4]
    | halt x w2 => rw [hq] at h4; simp at h4
  have hone := one_ok hv h1
  rw [run_store P w _ v' _ hone] at e ⊢
  obtain ⟨hgi, b2, k2, hr2, cs2, rest, fz, hl, hb, _⟩ := hR.cells hc
  rw [hr] at hr2
  cases hr2
  have hlt : off < (cs2 ++ rest).length := by
    have := (hl.over (.cons hv .nil) ho).2
    have := hl.length
    simp at *
    omega
  have hcell : w.cell? ⟨b, off, none⟩ = some (cs2 ++ rest)[off] := by rw [cell_row hb]; exact List.getElem?_eq_getElem hlt
  rw [hcell] at e ⊢
  exact e
theorem run_loadB {P : Program} {w : World} : ∀ (l : List UInt8) (a : Addr) (acc : ByteArray), (∀ j x, l[j]? = some x → w.cell? (a.add j) = some (.int .u8 (x.toNat : Int))) →
    (Extern.Bytes.loadBytes a l.length acc).run P w = .ok ⟨acc.data ++ l.toArray⟩ w
  | [], a, acc, _ => by simp [Extern.Bytes.loadBytes]
  | x :: l, a, acc, h => by
    have h0 : w.cell? a = some (.int .u8 x.toNat) := by
      have := h 0 x rfl
      simpa [Addr.add] using this
    have ih := run_loadB (P := P) l (a.add 1) (acc.push x) (fun j y hy => by
      have := h (j + 1) y (by simpa using hy)
      have e : (a.add 1).add j = a.add (j + 1) := by
        unfold Addr.add
        by_cases hj : j = 0
        · subst hj; simp
        · simp [hj]; omega
      rw [e]; exact this)
    have hx : ((x.toNat : Int).toNat).toUInt8 = x := by simp
    simp only [List.length_cons, Extern.Bytes.loadBytes, Sem.run_bind, run_load, h0, Result.andThen, hx]
    rw [ih]
    congr 1
    apply ByteArray.ext
    simp
theorem bytesP_ok {P : Program} {G : Cx} {r : Ren} {st : St} {w : World} {x x' : Value} {l : List UInt8} (hR : Rel G r st w) (h : bytesP x st = some l) (hx : VR r x x') : (Extern.Bytes.bytesOf x').run P w = .ok ⟨l.toArray⟩ w := by
  unfold bytesP at h
  split at h
  · rename_i i off n c
    rw [Option.bind_eq_some_iff] at h; obtain ⟨cl, hcl, h⟩ := h
    unfold firstP at hcl
    rw [Option.bind_eq_some_iff] at hcl; obtain ⟨⟨cs, T, m⟩, hc, hcl⟩ := hcl
    obtain ⟨hgi, b, k, hr, cs', rest, fz, hl, hb, _⟩ := hR.cells hc
    obtain ⟨hl2, hle, hlen⟩ := hl.sub hcl
    have he := bytesOf_ok h hl2
    have hbl : l.length = n := by
      have h1 := congrArg List.length he
      have h2 := hl2.length
      simp at h1
      have h3 := hl.length
      simp at h2
      omega
    have hcells : ∀ j x, l[j]? = some x → w.cell? ((⟨b, off, none⟩ : Addr).add j) = some (.int .u8 (x.toNat : Int)) := by
      intro j x hj
      have h1 : ((cs'.drop off).take (n * 1))[j]? = some (.int .u8 (x.toNat : Int)) := by rw [he]; simp [hj]
      rw [List.getElem?_take] at h1
      split at h1
      · rw [List.getElem?_drop] at h1
        rw [Addr.add_lit, cell_row hb, List.getElem?_append_left (List.getElem?_eq_some_iff.1 h1).1]
        exact h1
      · cases h1
    have key : (Extern.Bytes.loadBytes ⟨b, off, none⟩ n .empty).run P w = .ok ⟨l.toArray⟩ w := by
      have := run_loadB (P := P) (w := w) l ⟨b, off, none⟩ .empty hcells
      rw [hbl] at this
      simpa using this
    cases hx with
    | slice _ _ _ hr2 _ => rw [hr] at hr2; cases hr2; simpa [Extern.Bytes.bytesOf] using key
    | sliceBig _ _ _ hr2 _ => rw [hr] at hr2; cases hr2; simpa [Extern.Bytes.bytesOf] using key
  · cases h
    cases hx
    rfl
  · cases h
    cases hx
    simp [Extern.Bytes.bytesOf]
  · cases h
theorem overlaps_ok {P : Program} {G : Cx} {r : Ren} {st : St} {w : World} {t : TypeId} {ts rs : List TypeId} {a b a' b' v : Value} (hR : Rel G r st w) (h : overlapsP P t a b st = some v) (ha : VR r a a') (hb : VR r b b') :
    (Extern.SlicesOverlaps.overlaps (t :: ts).toArray rs.toArray #[a', b']).run P w = .ok v w ∧ closedV v = true := by
  unfold overlapsP at h
  rw [Option.bind_eq_some_iff] at h; obtain ⟨d, hd, h⟩ := h
  split at h
  case h_2 => cases h
  rename_i elem
  rw [Option.bind_eq_some_iff] at h; obtain ⟨size, hsz, h⟩ := h
  have pure0 : ∀ {x y : Option Addr} {la ca lb cb : Nat}, (x = none ∨ y = none) → (Extern.SlicesOverlaps.overlaps (t :: ts).toArray rs.toArray #[.slice x la ca, .slice y lb cb]).run P w = .ok (.bool false) w := by
    intro x y la ca lb cb hxy
    rw [show Extern.SlicesOverlaps.overlaps (t :: ts).toArray rs.toArray #[.slice x la ca, .slice y lb cb] = (underlying t >>= _) from rfl]
    simp only [Sem.run_bind, run_underlying hd, Result.andThen_ok, run_sizeP hsz]
    rcases hxy with rfl | rfl
    · simp
    · cases x <;> simp
  split at h
  · rename_i i o1 la ca j o2 lb cb
    have main : ∀ b1 k1 b2 k2 c1 c2, r i = some (b1, k1) → r j = some (b2, k2) → (Extern.SlicesOverlaps.overlaps (t :: ts).toArray rs.toArray #[.slice (some ⟨b1, o1, none⟩) la c1, .slice (some ⟨b2, o2, none⟩) lb c2]).run P w = .ok v w ∧ closedV v = true := by
      intro b1 k1 b2 k2 c1 c2 hr1 hr2
      rw [show Extern.SlicesOverlaps.overlaps (t :: ts).toArray rs.toArray #[.slice (some ⟨b1, o1, none⟩) la c1, .slice (some ⟨b2, o2, none⟩) lb c2] = (underlying t >>= _) from rfl]
      simp only [Sem.run_bind, run_underlying hd, Result.andThen_ok, run_sizeP hsz]
      by_cases h0 : la = 0 ∨ lb = 0 ∨ size = 0
      · have h0' : (Nat.beq la 0 || Nat.beq lb 0 || Nat.beq size 0) = true := by
          rcases h0 with rfl | rfl | rfl <;> simp
        rw [h0'] at h
        cases h
        simp [h0, closedV]
      · have h0' : (Nat.beq la 0 || Nat.beq lb 0 || Nat.beq size 0) = false := by
          cases hq : (Nat.beq la 0 || Nat.beq lb 0 || Nat.beq size 0) with
          | false => rfl
          | true =>
            simp only [Bool.or_eq_true] at hq
            exact absurd (by
              rcases hq with (hq | hq) | hq
              · exact .inl (Nat.eq_of_beq_eq_true hq)
              · exact .inr (.inl (Nat.eq_of_beq_eq_true hq))
              · exact .inr (.inr (Nat.eq_of_beq_eq_true hq))) h0
        rw [h0'] at h
        have h : ((st.cells i).bind fun x => (st.cells j).bind fun y => bif unmarked x.2.2 && unmarked y.2.2 then bif Nat.beq i j then some (.bool (Nat.blt o1 (o2 + lb * size) && Nat.blt o2 (o1 + la * size))) else some (.bool false) else none) = some v := h
        rw [Option.bind_eq_some_iff] at h; obtain ⟨⟨cs1, T1, m1⟩, hc1, h⟩ := h
        rw [Option.bind_eq_some_iff] at h; obtain ⟨⟨cs2, T2, m2⟩, hc2, h⟩ := h
        obtain ⟨hum, h⟩ := cond_none h
        simp only [Bool.and_eq_true] at hum
        obtain ⟨hg1, b1', k1', hr1', e1, f1, z1, _, hb1, hz1, _⟩ := hR.cells hc1
        obtain ⟨hg2, b2', k2', hr2', e2, f2, z2, _, hb2, hz2, _⟩ := hR.cells hc2
        rw [hr1] at hr1'; cases hr1'
        rw [hr2] at hr2'; cases hr2'
        have hz1 : z1 = (0, 0) := hz1.plain hum.1
        have hz2 : z2 = (0, 0) := hz2.plain hum.2
        subst hz1
        subst hz2
        rw [if_neg h0]
        by_cases e : i = j
        · subst e
          rw [hr1] at hr2; cases hr2
          rw [Nat.beq_refl] at h
          cases h
          simp [closedV, Nat.blt_eq, ← Nat.blt_eq]
        · have hij : Nat.beq i j = false := by
            cases hq : Nat.beq i j with
            | false => rfl
            | true => exact absurd (Nat.eq_of_beq_eq_true hq) e
          rw [hij] at h
          cases h
          have hbb : b1 ≠ b2 := fun hh => by subst hh; exact e (hR.inj i j _ _ b1 k1 k2 hg1 hg2 hr1 hr2)
          simp [hbb, World.frozen?, hb1, hb2, noView, viewAt, World.shape?, mayBeOne, stringish, closedV]
    cases ha <;> cases hb <;> exact main _ _ _ _ _ _ (by assumption) (by assumption)
  · cases h; cases ha; cases hb; exact ⟨pure0 (.inl rfl), rfl⟩
  · cases h; cases ha; cases hb <;> exact ⟨pure0 (.inl rfl), rfl⟩
  · cases h; cases hb; cases ha <;> exact ⟨pure0 (.inr rfl), rfl⟩
  · cases h
theorem ext_ok {P : Program} {G : Cx} {r : Ren} {st st' : St} {w : World} {e : Ext} {args args' : List Value} {v : Value} (hR : Rel G r st w) (h : extP P e args st = some (v, st')) (hl : LR r args args') :
    ∃ w' v', (semX e args'.toArray).run P w = .ok v' w' ∧ VR r v v' ∧ Step G r st w r st' w' := by
  have un : ∀ {x : Value} {l l' : List Value}, LR r (x :: l) l' → ∃ x' t', l' = x' :: t' ∧ VR r x x' ∧ LR r l t' := by
    intro x l l' h; cases h with | cons h1 h2 => exact ⟨_, _, rfl, h1, h2⟩
  unfold extP at h
  split at h
  · -- load
    rename_i k a
    obtain ⟨a', t', rfl, ha, ht⟩ := un hl
    cases ht
    rw [Option.bind_eq_some_iff] at h; obtain ⟨⟨i, off, cs, T, m, u⟩, hc, h⟩ := h
    obtain ⟨b, kk, u', rfl, hcs, hr, hcell, hu, _, _⟩ := cell_ok hR hc ha
    dsimp only at h
    split at h
    · rename_i k' n
      obtain ⟨hk, h⟩ := cond_none h
      cases h
      cases hu
      have hk : k = k' := by simpa using hk
      exact ⟨w, _, by rw [show semX (.load k) #[.pointer (some ⟨b, off, none⟩)] = (asAddr (.pointer (some ⟨b, off, none⟩)) >>= _) from rfl]; simp [Array.getLit, Extern.Atomic.read, asAddr, hcell, hk], .int _ _, Step.refl hR⟩
    · cases h
  · -- store
    rename_i a x
    obtain ⟨a', t', rfl, ha, ht⟩ := un hl
    obtain ⟨x', t2, rfl, hx, ht⟩ := un ht
    cases ht
    rw [Option.bind_eq_some_iff] at h; obtain ⟨⟨i, off, cs, T, m, u⟩, hc, h⟩ := h
    obtain ⟨b, kk, u', rfl, hcs, hr, hcell, hu, _, _⟩ := cell_ok hR hc ha
    obtain ⟨h1, h⟩ := cond_none h
    rw [Option.bind_eq_some_iff] at h; obtain ⟨cs2, ho, h⟩ := h
    cases h
    obtain ⟨w', h2, h3⟩ := one_store (P := P) hR hcs hr ho hx h1
    have e1 : semX .store #[.pointer (some ⟨b, off, none⟩), x'] = (do store (← asAddr (.pointer (some ⟨b, off, none⟩))) x' .atomic; pure Extern.Atomic.none_) := rfl
    exact ⟨w', undef, by rw [e1]; simp only [asAddr, Sem.run_bind, Sem.run_pure, Result.andThen_ok, h2]; rfl, undef_ok, h3⟩
  · -- swap
    rename_i k a x
    obtain ⟨a', t', rfl, ha, ht⟩ := un hl
    obtain ⟨x', t2, rfl, hx, ht⟩ := un ht
    cases ht
    rw [Option.bind_eq_some_iff] at h; obtain ⟨⟨i, off, cs, T, m, u⟩, hc, h⟩ := h
    obtain ⟨b, kk, u', rfl, hcs, hr, hcell, hu, _, _⟩ := cell_ok hR hc ha
    dsimp only at h
    split at h
    · rename_i k' n
      obtain ⟨hk, h⟩ := cond_none h
      rw [Option.bind_eq_some_iff] at h; obtain ⟨cs2, ho, h⟩ := h
      cases h
      simp only [Bool.and_eq_true] at hk
      cases hu
      have hk1 : k = k' := by simpa using hk.1
      obtain ⟨w', h2, h3⟩ := one_store (P := P) hR hcs hr ho hx hk.2
      exact ⟨w', _, by rw [show semX (.swap k) #[.pointer (some ⟨b, off, none⟩), x'] = (asAddr (.pointer (some ⟨b, off, none⟩)) >>= _) from rfl]; simp [Array.getLit, Extern.Atomic.read, asAddr, hcell, hk1, h2], .int _ _, h3⟩
    · cases h
  · -- compare and swap
    rename_i k a ky y x
    obtain ⟨a', t', rfl, ha, ht⟩ := un hl
    obtain ⟨y', t2, rfl, hy, ht⟩ := un ht
    obtain ⟨x', t3, rfl, hx, ht⟩ := un ht
    cases ht
    cases hy
    rw [Option.bind_eq_some_iff] at h; obtain ⟨⟨i, off, cs, T, m, u⟩, hc, h⟩ := h
    obtain ⟨b, kk, u', rfl, hcs, hr, hcell, hu, hfz, hsh⟩ := cell_ok hR hc ha
    dsimp only at h
    split at h
    · rename_i k' n
      obtain ⟨hk, h⟩ := cond_none h
      simp only [Bool.and_eq_true] at hk
      cases hu
      have hk1 : k = k' := by simpa using hk.1
      have hview : (viewAt b).run P w = .ok none w := by
        obtain ⟨sh, hsh⟩ := Option.ne_none_iff_exists'.1 hsh
        simp [viewAt, hsh]
      have htf : (Extern.Atomic.touchesFrozen ⟨b, off, none⟩).run P w = .ok false w := by
        simp [Extern.Atomic.touchesFrozen, hview, hfz]
      simp only [cond_eq_ite] at h
      split at h
      · rename_i heq
        rw [Option.bind_eq_some_iff] at h; obtain ⟨cs2, ho, h⟩ := h
        cases h
        obtain ⟨w', h2, h3⟩ := one_store (P := P) hR hcs hr ho hx hk.2
        have heq : n = y := by simpa using heq
        exact ⟨w', .bool true, by rw [show semX (.cas k) #[.pointer (some ⟨b, off, none⟩), .int ky y, x'] = (asAddr (.pointer (some ⟨b, off, none⟩)) >>= _) from rfl]; simp [Array.getLit, Extern.Atomic.read, asAddr, htf, hcell, hk1, heq, h2], .bool _, h3⟩
      · rename_i heq
        cases h
        have heq : ¬ n = y := by simpa using heq
        exact ⟨w, .bool false, by rw [show semX (.cas k) #[.pointer (some ⟨b, off, none⟩), .int ky y, x'] = (asAddr (.pointer (some ⟨b, off, none⟩)) >>= _) from rfl]; simp [Array.getLit, Extern.Atomic.read, asAddr, htf, hcell, hk1, heq], .bool _, Step.refl hR⟩
    · cases h
  · -- compare
    rename_i a b
    obtain ⟨a', t', rfl, ha, ht⟩ := un hl
    obtain ⟨b', t2, rfl, hb, ht⟩ := un ht
    cases ht
    rw [Option.bind_eq_some_iff] at h; obtain ⟨x, hx, h⟩ := h
    rw [Option.bind_eq_some_iff] at h; obtain ⟨y, hy, h⟩ := h
    cases h
    have h1 := bytesP_ok (P := P) hR hx ha
    have h2 := bytesP_ok (P := P) hR hy hb
    refine ⟨w, _, ?_, .int _ _, Step.refl hR⟩
    rw [show semX .compare #[a', b'] = (do pure (goInt (Extern.BytealgCompare.cmp (← Extern.Bytes.bytesOf a') (← Extern.Bytes.bytesOf b')))) from rfl]
    simp [h1, h2, goInt]
  · -- overlaps
    rename_i t ts rs a b
    obtain ⟨a', t', rfl, ha, ht⟩ := un hl
    obtain ⟨b', t2, rfl, hb, ht⟩ := un ht
    cases ht
    rw [Option.bind_eq_some_iff] at h; obtain ⟨x, hx, h⟩ := h
    cases h
    obtain ⟨h1, h2⟩ := overlaps_ok (P := P) (ts := ts) (rs := rs) hR hx ha hb
    exact ⟨w, _, h1, VR.closed _ h2, Step.refl hR⟩
  · -- add
    rename_i k a ky y
    obtain ⟨a', t', rfl, ha, ht⟩ := un hl
    obtain ⟨y', t2, rfl, hy, ht⟩ := un ht
    cases ht
    cases hy
    rw [Option.bind_eq_some_iff] at h; obtain ⟨⟨i, off, cs, T, m, u⟩, hc, h⟩ := h
    obtain ⟨b, kk, u', rfl, hcs, hr, hcell, hu, _, _⟩ := cell_ok hR hc ha
    dsimp only at h
    have e1 : semX (.add k) #[.pointer (some ⟨b, off, none⟩), .int ky y] = (do
        let a ← asAddr (.pointer (some ⟨b, off, none⟩))
        let old ← Extern.Atomic.read (.int k) a
        let new ← Op.intArith .add k (← asInt old) (← asInt (.int ky y))
        store a new .atomic
        pure (if true then new else old)) := rfl
    split at h
    · rename_i k' n
      obtain ⟨hk, h⟩ := cond_none h
      rw [Option.bind_eq_some_iff] at h; obtain ⟨cs2, ho, h⟩ := h
      cases h
      cases hu
      have hk1 : k = k' := by simpa using hk
      obtain ⟨w', h2, h3⟩ := one_store (P := P) hR hcs hr ho (.int _ _) rfl
      subst hk1
      exact ⟨w', _, by rw [e1]; simp [Array.getLit, Extern.Atomic.read, asAddr, asInt, asIntOf, Op.intArith, hcell, h2], .int _ _, h3⟩
    · cases h
  · cases h

theorem toLead_ok {P : Program} {G : Cx} {rec : Task → Option (List Res)} {r : Ren} {st : St} {w : World} {L : List (Value × St)} {ld : Lead} {s : Sem Next} {ro : Option Nat} {m : Nat} {o : Oper} (hrec : RecOk P G rec) (hN : Kn P G)
    (hR : Rel G r st w) (hf : ∀ x ∈ L, Fresh r st.n x.2.n) (h : toLead P G rec ld st = some L) (hs : LeadK P r s ld) :
    ∀ (a : Act) (K : Act → World → Prop) (Q : Exit → Act → World → Prop), (∀ x ∈ L, ∀ r' w' v', Step G r st w r' x.2 w' → VR r' x.1 v' → K (a.put o.dst v') w') → o.uponIn (WF ro) m P a K Q (s.run P w) := by
  intro a K Q hK
  cases ld with
  | fn f args =>
    obtain ⟨args', hl, hrun⟩ := hs
    rw [hrun]
    unfold toLead at h
    rw [Option.bind_eq_some_iff] at h; obtain ⟨fn, hfn, h⟩ := h
    split at h
    · rename_i c hb
      obtain ⟨L1, hres, h1⟩ := bindM_some h
      have hin : ∀ res ∈ L1, (res.v, res.st) ∈ L := by
        intro res hr
        obtain ⟨La, e, h2⟩ := h1 res hr
        cases e
        exact h2 _ (List.mem_singleton.2 rfl)
      have hn := hN.num f fn hfn
      have hcf : (callFunc f args'.toArray).run P w = .ok (.enter f args'.toArray) w := by
        have hn' : ¬ fn.name = "runtime.NumGoroutine" := by simpa using hn
        simp [callFunc, hfn, hn', hb]
      rw [hcf, Oper.uponIn_enter]
      refine ⟨fun h => by simp [WF] at h, ?_⟩
      have := hrec _ _ hres r w args' (m - 1) hR hl (fun res hr => hf _ (hin res hr))
      refine CallsIn.mono (show CallsIn (WF ro) (m - 1) P f args'.toArray w _ from this) ?_
      rintro e w' ⟨res, hr, r', v', rfl, hv, hstep⟩
      exact hK _ (hin res hr) _ _ _ hstep hv
    · obtain ⟨x, h0, rfl⟩ := lift1_some h
      clear h
      have h := h0
      clear h0
      obtain ⟨v, st'⟩ := x
      have hK := hK _ (List.mem_singleton.2 rfl)
      split at h
      · rename_i ex hex
        obtain ⟨w', v', h1, h2, h3⟩ := ext_ok (P := P) hR h hl
        rw [hN.ext f ex hex (by rintro rfl; simp [extP] at h), h1, Result.andThen_ok, Oper.uponIn_value]
        exact hK r w' _ h3 h2
      · obtain ⟨hc, h⟩ := cond_none h
        split at h
        · rename_i u hp
          obtain ⟨hcu, h⟩ := cond_none h
          cases h
          have e := LR.closed_eq hl hc
          subst e
          rw [pureRun_ok hp w, Oper.uponIn_value]
          exact hK r w _ (Step.refl hR) (VR.closed _ hcu)
        · cases h
  | round l args =>
    obtain ⟨b, k, args', hr, hl, hrun⟩ := hs
    rw [hrun]
    unfold toLead at h
    dsimp only at h
    split at h
    case h_2 => cases h
    rename_i τ N ps asg body ar hget
    obtain ⟨hb, h⟩ := cond_none h
    obtain ⟨L1, hr1, h1⟩ := bindM_some h
    simp only [Bool.and_eq_true] at hb
    have hsz := Nat.eq_of_beq_eq_true hb.1
    have hall : ∀ t ∈ ps.toList, t < N := fun t ht => blt_lt (List.all_eq_true.1 hb.2 t ht)
    have inner : ∀ r1 ∈ L1, r1.out = .normal ∧ ∃ τ1 N1 ps1 asg1 body1 ar1, r1.st.H.get l = some (.loop .ready none τ1 N1 ps1 asg1 body1 ar1) ∧ ∃ L2, rec (.code body (some l) r1.fr (r1.st.upd l (.loop .busy none τ1 N1 ps1 asg1 body1 ar1))) = some L2 ∧ (∃ r2, r2 ∈ L2) ∧
        ∀ r2 ∈ L2, r1.st.n ≤ r2.st.n ∧ ∃ τ2 N2 ps2 asg2 body2 ar2, r2.st.H.get l = some (.loop .busy none τ2 N2 ps2 asg2 body2 ar2) ∧ ∃ (x : Value × St), x ∈ L ∧ x.2.n = r2.st.n ∧
          ((r2.out = .normal ∧ x = (.bool true, r2.st.upd l (.loop .ready none τ2 N2 ps2 asg2 body2 ar2))) ∨ (r2.out = .ret ∧ x = (.bool false, r2.st.upd l (.loop .done (some .ret) τ2 N2 ps2 asg2 body2 ar2))) ∨
           (∃ id, r2.out = .exit id ∧ x = (.bool false, r2.st.upd l (.loop .done (some (.exit id)) τ2 N2 ps2 asg2 body2 ar2))) ∨ (∃ t, r2.out = .goto t ∧ x = (.bool false, r2.st.upd l (.loop .done (some (.goto t)) τ2 N2 ps2 asg2 body2 ar2)))) := by
      intro r1 hm1
      obtain ⟨La, h2, hsub⟩ := h1 r1 hm1
      split at h2
      case h_2 => cases h2
      rename_i hout
      split at h2
      case h_2 => cases h2
      rename_i τ1 N1 ps1 asg1 body1 ar1 hget1
      obtain ⟨L2, hr2, h3⟩ := bindM_some h2
      obtain ⟨hr2, hne, hmono⟩ := chk_ok hr2
      refine ⟨hout, τ1, N1, ps1, asg1, body1, ar1, hget1, L2, hr2, hne, fun r2 hm2 => ⟨hmono r2 hm2, ?_⟩⟩
      obtain ⟨Lb, h4, hsub2⟩ := h3 r2 hm2
      split at h4
      case h_2 => cases h4
      rename_i τ2 N2 ps2 asg2 body2 ar2 hget2
      refine ⟨τ2, N2, ps2, asg2, body2, ar2, hget2, ?_⟩
      split at h4 <;> rename_i hout2 <;> cases h4
      · exact ⟨_, hsub _ (hsub2 _ (List.mem_singleton.2 rfl)), rfl, .inl ⟨hout2, rfl⟩⟩
      · exact ⟨_, hsub _ (hsub2 _ (List.mem_singleton.2 rfl)), rfl, .inr (.inl ⟨hout2, rfl⟩)⟩
      · exact ⟨_, hsub _ (hsub2 _ (List.mem_singleton.2 rfl)), rfl, .inr (.inr (.inl ⟨_, hout2, rfl⟩))⟩
      · exact ⟨_, hsub _ (hsub2 _ (List.mem_singleton.2 rfl)), rfl, .inr (.inr (.inr ⟨_, hout2, rfl⟩))⟩
    clear h h1
    obtain ⟨lp, e1, e2, e3, e4, e5, e6, e7, e8, _, _⟩ := loop_turn (P := P) (state' := .ready) (pending' := none) hR hget hr
    have hy := run_yield (P := P) (args := args'.toArray) e8 (by rw [e3]; simp [hl.length, hsz])
    rw [hy, Oper.uponIn_round]
    refine ⟨fun h => by simp [WF] at h, ?_⟩
    refine roundIn_of_wpIn trivial ?_
    rw [e4, e5]
    have hseed := seed_ok (ts := ps.toList) e7 (fun t ht => by rw [e6]; exact hall t ht) hl
    have hzip : (lp.params.zip args'.toArray).foldl (fun tmps (t, a) => tmps.setIfInBounds t a) lp.tmps = (ps.toList.zip args').foldl (fun tmps (x : Tmp × Value) => tmps.setIfInBounds x.1 x.2) lp.tmps := by
      rw [e3, ← Array.foldl_toList, Array.toList_zip]
    rw [hzip]
    have hA := (hrec _ _ hr1).1 r w { tmps := _, defers := [] } (some b) (m - 1) hR ⟨by rw [hseed.2]; exact e6, hseed.1, .nil⟩ (.inr ⟨l, b, k, rfl, rfl, hr⟩) (fun r1 hm1 => by
      obtain ⟨_, _, _, _, _, _, _, _, L2, _, ⟨r2, hm2⟩, h4⟩ := inner r1 hm1
      obtain ⟨hle, _, _, _, _, _, _, _, x, hx, hxn, _⟩ := h4 r2 hm2
      exact (hf x hx).less (by rw [hxn]; exact hle))
    refine wpIn_mono (show asg.wpIn ((WF ro).inRound b) (m - 1) P _ _ w from hA) ?_
    rintro e a1 w1 ⟨r1, hm1, rfl, r', hstep, hfr⟩
    obtain ⟨hout, τ1, N1, ps1, asg1, body1, ar1, hget1, L2, hr2, _, h4⟩ := inner r1 hm1
    rw [hout]
    -- the round begins
    have hr' := hstep.le _ _ hr
    obtain ⟨lp1, f1, f2, f3, f4, f5, f6, f7, f8, _, fstep⟩ := loop_turn (P := P) (state' := .busy) (pending' := none) hstep.rel hget1 hr'
    refine ⟨_, run_beginRound f8 f1, ?_⟩
    have hput : { lp1 with state := .busy } = { lp1 with state := .busy, pending := none } := by rw [← f2]
    rw [hput]
    have hs2 := hstep.trans fstep
    have hB := (hrec _ _ hr2).1 r' _ a1 (some b) (m - 1) hs2.rel hfr (.inr ⟨l, b, k, rfl, rfl, hr'⟩) (fun r2 hm2 => hs2.rest (by
      obtain ⟨hle, _, _, _, _, _, _, _, x, hx, hxn, _⟩ := h4 r2 hm2
      rw [← hxn]; exact hf x hx))
    refine wpIn_mono (show body.wpIn ((WF ro).inRound b) (m - 1) P _ _ _ from hB) ?_
    rintro e a2 w2 ⟨r2, hm2, rfl, r'', hstep2, hfr2⟩
    obtain ⟨_, τ2, N2, ps2, asg2, body2, ar2, hget2, x, hx, hxn, hcase⟩ := h4 r2 hm2
    have hs3 := hs2.trans hstep2
    have hr'' := hs3.le _ _ hr
    have fin : ∀ (jump : Option Code), ∃ w3, (Instr.endRound b jump).run P w2 = .ok (.bool jump.isNone) w3 ∧
        Step G r st w r'' (r2.st.upd l (.loop (if jump.isNone then .ready else .done) jump τ2 N2 ps2 asg2 body2 ar2)) w3 := by
      intro jump
      obtain ⟨lp2, g1, g2, g3, g4, g5, g6, g7, g8, _, gstep⟩ := loop_turn (P := P) (state' := if jump.isNone then .ready else .done) (pending' := jump) hs3.rel hget2 hr''
      exact ⟨_, run_endRound jump g8, hs3.trans gstep⟩
    rcases hcase with ⟨hout2, rfl⟩ | ⟨hout2, rfl⟩ | ⟨id, hout2, rfl⟩ | ⟨t, hout2, rfl⟩ <;> rw [hout2]
    · obtain ⟨w3, h1, h2⟩ := fin none
      exact ⟨_, w3, h1, hK _ hx _ _ _ h2 (.bool _)⟩
    · obtain ⟨w3, h1, h2⟩ := fin (some .ret)
      exact ⟨_, w3, h1, hK _ hx _ _ _ h2 (.bool _)⟩
    · obtain ⟨w3, h1, h2⟩ := fin (some (.exit _))
      exact ⟨_, w3, h1, hK _ hx _ _ _ h2 (.bool _)⟩
    · obtain ⟨w3, h1, h2⟩ := fin (some (.goto _))
      exact ⟨_, w3, h1, hK _ hx _ _ _ h2 (.bool _)⟩

/-- One operation, and on, whichever of these comes. -/
def OpKL (P : Program) (G : Cx) (r : Ren) (st : St) (w : World) (L : List (Value × St)) (F : Fence) (m : Nat) (o : Oper) (ρ : Operand → Value) : Prop :=
  ∀ (a : Act) (K : Act → World → Prop) (Q : Exit → Act → World → Prop), (∀ x ∈ L, ∀ r' w' v', Step G r st w r' x.2 w' → VR r' x.1 v' → K (a.put o.dst v') w') → o.uponIn F m P a K Q ((execOp ρ o).run P w)
theorem op_ok {P : Program} {G : Cx} {rec : Task → Option (List Res)} {r : Ren} {st : St} {w : World} {L : List (Value × St)} {τ : Tr Value} {ρ : Operand → Value} {ro : Option Nat} {m : Nat} {o : Oper} (hrec : RecOk P G rec) (hN : Kn P G)
    (hR : Rel G r st w) (hev : ∀ x v, eval G τ x = some v → VR r v (ρ x)) (hf : ∀ x ∈ L, Fresh r st.n x.2.n) (h : opP P G rec τ o st = some L) : OpKL P G r st w L (WF ro) m o ρ := by
  intro a K Q hK
  unfold opP at h
  split at h
  · rename_i f args argTypes e
    rw [Option.bind_eq_some_iff] at h; obtain ⟨fv, hfv, h⟩ := h
    rw [Option.bind_eq_some_iff] at h; obtain ⟨al, has, h⟩ := h
    rw [Option.bind_eq_some_iff] at h; obtain ⟨ld, hld, h⟩ := h
    have hlk := lead_ok hld (hev _ _ hfv) (evalL_ok hev has)
    have e2 : execOp ρ o = (do let d ← Deferred.ofValue (ρ f) (args.toList.map ρ).toArray; invoke d.target d.args) := by
      have : (args.toList.map ρ).toArray = args.map ρ := by apply Array.toList_inj.1; simp
      rw [this]
      simp only [execOp, e, resolve]
    rw [e2]
    exact toLead_ok hrec hN hR hf h hlk a K Q hK
  · rename_i x name args argTypes e
    rw [Option.bind_eq_some_iff] at h; obtain ⟨fv, hfv, h⟩ := h
    rw [Option.bind_eq_some_iff] at h; obtain ⟨al, has, h⟩ := h
    rw [Option.bind_eq_some_iff] at h; obtain ⟨ld, hld, h⟩ := h
    have hlk := method_ok hld (hev _ _ hfv) (evalL_ok hev has)
    have e2 : execOp ρ o = invoke (.fn (.method name) #[]) (#[ρ x] ++ (args.toList.map ρ).toArray) := by
      have : (args.toList.map ρ).toArray = args.map ρ := by apply Array.toList_inj.1; simp
      rw [this]
      simp only [execOp, e, resolve]
      rfl
    rw [e2]
    exact toLead_ok hrec hN hR hf h hlk a K Q hK
  · rename_i it e
    rw [Option.bind_eq_some_iff] at h; obtain ⟨fv, hfv, h⟩ := h
    obtain ⟨x, hx, r', w', v', h1, h2, h3⟩ := nextN_ok (P := P) (ty := o.type) hR h (hev _ _ hfv)
    have e2 : execOp ρ o = (do pure (.value (← Instr.next (ρ it) false o.type)) : Sem Next) := by
      simp only [execOp, e]
    rw [e2]
    simp only [Sem.run_bind, h1, Result.andThen_ok, Sem.run_pure, Oper.uponIn_value]
    exact hK x hx r' w' v' h3 h2
  · obtain ⟨x, h0, rfl⟩ := lift1_some h
    clear h
    have h := h0
    clear h0
    obtain ⟨v, st'⟩ := x
    have hf := hf _ (List.mem_singleton.2 rfl)
    exact OpK.of_comes1 (op1_ok hR hev hf h) a K Q (hK _ (List.mem_singleton.2 rfl))
end Ev
end
end Go.Proofs.YtcnbgdplkobenaaGreatDoor
