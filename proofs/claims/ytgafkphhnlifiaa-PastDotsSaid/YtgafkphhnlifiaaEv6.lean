/- One operation on marks is one operation of the model's. No program is named here. -/
import Derived.Test.YtgafkphhnlifiaaEvm
namespace Go.Proofs.Ytgafkphhnlifiaa
namespace Ev
set_option linter.unusedVariables false
set_option linter.unusedSimpArgs false
open Go.RowKit
variable {P : Program} {G : Cx} {r : Ren} {st : St} {w : World}

theorem evalL_ok {τ : Tr Value} {ρ : Operand → Value} (hev : ∀ x v, eval G τ x = some v → VR r v (ρ x)) : ∀ {l : List Operand} {vs : List Value}, evalL G τ l = some vs → LR r vs (l.map ρ)
  | [], vs, h => by simp [evalL] at h; subst h; exact .nil
  | x :: l, vs, h => by
    unfold evalL at h
    rw [Option.bind_eq_some_iff] at h; obtain ⟨v, hv, h⟩ := h
    rw [Option.bind_eq_some_iff] at h; obtain ⟨vs', hvs, h⟩ := h
    cases h
    exact .cons (hev x v hv) (evalL_ok hev hvs)
theorem evalP_ok {τ : Tr Value} {ρ : Operand → Value} (hev : ∀ x v, eval G τ x = some v → VR r v (ρ x)) : ∀ {l : List (Nat × Operand)} {vs : List (Nat × Value)}, evalP G τ l = some vs → PR r vs (l.map fun (i, x) => (i, ρ x))
  | [], vs, h => by simp [evalP] at h; subst h; exact .nil
  | (i, x) :: l, vs, h => by
    unfold evalP at h
    rw [Option.bind_eq_some_iff] at h; obtain ⟨v, hv, h⟩ := h
    rw [Option.bind_eq_some_iff] at h; obtain ⟨vs', hvs, h⟩ := h
    cases h
    exact .cons (hev x v hv) (evalP_ok hev hvs)
theorem evalO_ok {τ : Tr Value} {ρ : Operand → Value} (hev : ∀ x v, eval G τ x = some v → VR r v (ρ x)) {x : Option Operand} {y : Option Value} (h : evalO G τ x = some y) : OR r y (x.map ρ) := by
  cases x with
  | none => simp [evalO] at h; subst h; exact .none
  | some x =>
    unfold evalO at h
    rw [Option.bind_eq_some_iff] at h; obtain ⟨v, hv, h⟩ := h
    cases h
    exact .some (hev x v hv)

/-- What an operation's run on the model's side comes to. -/
def Comes1 (G : Cx) (r : Ren) (st : St) (w : World) (v : Value) (st' : St) (res : Result Next) : Prop :=
  ∃ r' w', Step G r st w r' st' w' ∧ ((∃ v', res = .ok (.value v') w' ∧ VR r' v v') ∨ (res = .ok .skip w' ∧ v = undef))
theorem Comes1.same {v : Value} {res : Result Next} (hR : Rel G r st w) (h : ∃ v', res = .ok (.value v') w ∧ VR r v v') : Comes1 G r st w v st res := ⟨r, w, Step.refl hR, .inl h⟩
theorem Comes1.val {v : Value} {st' : St} {s : Sem Value} (h : ∃ r' w' v', s.run P w = .ok v' w' ∧ VR r' v v' ∧ Step G r st w r' st' w') : Comes1 G r st w v st' ((do pure (.value (← s)) : Sem Next).run P w) := by
  obtain ⟨r', w', v', h1, h2, h3⟩ := h
  exact ⟨r', w', h3, .inl ⟨v', by simp [h1], h2⟩⟩
theorem Comes1.quiet {v : Value} {s : Sem Value} (hR : Rel G r st w) (h : ∃ v', s.run P w = .ok v' w ∧ VR r v v') : Comes1 G r st w v st ((do pure (.value (← s)) : Sem Next).run P w) := by
  obtain ⟨v', h1, h2⟩ := h
  exact Comes1.val ⟨r, w, v', h1, h2, Step.refl hR⟩
theorem Comes1.plain {ev : Operand → Option Value} {ρ : Operand → Value} {o : Oper} {v : Value} {st' : St} (hR : Rel G r st w) (hT : ∀ x v, ev x = some v → VR r v (ρ x)) (h : ((plainP P ev o).bind fun v => some (v, st)) = some (v, st')) :
    Comes1 G r st w v st' ((execOp ρ o).run P w) := by
  rw [Option.bind_eq_some_iff] at h; obtain ⟨u, hu, h⟩ := h
  cases h
  obtain ⟨h1, h2⟩ := plain_ok hu hT w
  exact Comes1.same hR ⟨v, h1, VR.closed v h2⟩

theorem nilAhead_ok {t : TypeId} {v : Value} {name : String} {u : Unit}
    (h : ((P.info? t).bind fun i => (i.methods.toList.find? (·.name == name)).bind fun m => m.func.bind fun q => bif m.path.isEmpty then (match q.2 with | true => some () | false => (P.underlying t).bind fun d => match d with | .pointer _ => none | _ => some ()) else none) = some u) (w : World) :
    (nilAhead (P.types.size + Made.depth) t v name).run P w = .ok (some false) w := by
  rw [Option.bind_eq_some_iff] at h; obtain ⟨i, hi, h⟩ := h
  rw [Option.bind_eq_some_iff] at h; obtain ⟨m, hm, h⟩ := h
  rw [Option.bind_eq_some_iff] at h; obtain ⟨⟨f, pr⟩, hfp, h⟩ := h
  obtain ⟨hpath, h⟩ := cond_none h
  have hmm : i.methods.find? (·.name == name) = some m := by rw [← Array.find?_toList]; exact hm
  have hp : m.path.toList = [] := by simpa using hpath
  obtain ⟨n, hn⟩ : ∃ n, P.types.size + Made.depth = n + 1 := ⟨P.types.size + (Made.depth - 1), by unfold Made.depth; omega⟩
  rw [hn]
  unfold nilAhead
  simp only [typeInfo, Sem.run_bind, run_program, Result.andThen_ok, hi, Sem.run_pure, hmm, hp, followBlind, hfp]
  cases pr with
  | true => simp
  | false =>
    dsimp only at h
    rw [Option.bind_eq_some_iff] at h; obtain ⟨d, hd, h⟩ := h
    simp only [Sem.run_bind, run_underlying hd, Result.andThen_ok]
    cases d <;> first | (simp at h; done) | simp
set_option maxHeartbeats 2000000 in
theorem op1_ok {τ : Tr Value} {ρ : Operand → Value} {o : Oper} {v : Value} {st' : St} (hR : Rel G r st w) (hev : ∀ x v, eval G τ x = some v → VR r v (ρ x)) (hf : ∀ i, st.n ≤ i → i < st'.n → r i = none) (h : op1 P G τ o st = some (v, st')) :
    Comes1 G r st w v st' ((execOp ρ o).run P w) := by
  unfold op1 at h
  dsimp only at h
  split at h
  · -- move
    rename_i x e
    rw [Option.bind_eq_some_iff] at h; obtain ⟨u, hu, h⟩ := h
    cases h
    exact Comes1.same hR ⟨ρ x, by simp [execOp, e], hev _ _ hu⟩
  · rename_i x e
    rw [Option.bind_eq_some_iff] at h; obtain ⟨u, hu, h⟩ := h
    cases h
    exact Comes1.same hR ⟨ρ x, by simp [execOp, e], hev _ _ hu⟩
  · -- pick
    rename_i c x y e
    rw [Option.bind_eq_some_iff] at h; obtain ⟨u, hu, h⟩ := h
    have hcu := hev _ _ hu
    split at h
    · rw [Option.bind_eq_some_iff] at h; obtain ⟨u1, hu1, h⟩ := h
      rw [Option.bind_eq_some_iff] at h; obtain ⟨u2, hu2, h⟩ := h
      cases h
      have hc := VR.closed_eq hcu rfl
      exact Comes1.same hR ⟨ρ x, by simp [execOp, e, asBool, hc], hev _ _ hu1⟩
    · rw [Option.bind_eq_some_iff] at h; obtain ⟨u1, hu1, h⟩ := h
      rw [Option.bind_eq_some_iff] at h; obtain ⟨u2, hu2, h⟩ := h
      cases h
      have hc := VR.closed_eq hcu rfl
      exact Comes1.same hR ⟨ρ y, by simp [execOp, e, asBool, hc], hev _ _ hu2⟩
    · cases h
  · -- extract
    rename_i t i e
    rw [Option.bind_eq_some_iff] at h; obtain ⟨u, hu, h⟩ := h
    have hcu := hev _ _ hu
    split at h
    · rename_i vs
      rw [Option.bind_eq_some_iff] at h; obtain ⟨u1, hu1, h⟩ := h
      cases h
      generalize hq : ρ t = tv at hcu
      cases hcu with
      | @tuple xs xs' hl =>
      obtain ⟨v', hv', hvr⟩ := hl.at_ i (by simpa using hu1)
      exact Comes1.same hR ⟨v', by simp [execOp, e, hq, Instr.extract, hv'], hvr⟩
    · cases h
  · -- alloc
    rename_i T e
    rw [Option.bind_eq_some_iff] at h; obtain ⟨z, hz, h⟩ := h
    cases h
    have := Comes1.val (alloc_ok (P := P) hR (hf _ (Nat.le_refl _) (by simp [St.new])) hz)
    simpa [execOp, e] using this
  · -- box
    rename_i T x e
    rw [Option.bind_eq_some_iff] at h; obtain ⟨u, hu, h⟩ := h
    cases h
    have := Comes1.val (box_ok (P := P) (T := T) hR (hf _ (Nat.le_refl _) (by simp [St.new])) (hev _ _ hu))
    simpa [execOp, e] using this
  · -- build
    rename_i t ps e
    rw [Option.bind_eq_some_iff] at h; obtain ⟨pl, hpl, h⟩ := h
    rw [Option.bind_eq_some_iff] at h; obtain ⟨u, hu, h⟩ := h
    cases h
    have := Comes1.quiet hR (build_ok (w := w) hu (evalP_ok hev hpl))
    have e2 : (ps.toList.map fun (i, x) => (i, ρ x)).toArray = ps.map fun (i, x) => (i, ρ x) := by apply Array.toList_inj.1; simp
    rw [e2] at this
    simpa [execOp, e] using this
  · -- buildSlice
    rename_i t n ps e
    rw [Option.bind_eq_some_iff] at h; obtain ⟨pl, hpl, h⟩ := h
    have := Comes1.val (buildSlice_ok (w := w) hR hf h (evalP_ok hev hpl))
    have e2 : (ps.toList.map fun (i, x) => (i, ρ x)).toArray = ps.map fun (i, x) => (i, ρ x) := by apply Array.toList_inj.1; simp
    rw [e2] at this
    simpa [execOp, e] using this
  · -- makeSlice
    rename_i t l c e
    rw [Option.bind_eq_some_iff] at h; obtain ⟨u, hu, h⟩ := h
    rw [Option.bind_eq_some_iff] at h; obtain ⟨u2, hu2, h⟩ := h
    have := Comes1.val (makeSlice_ok (w := w) hR hf h (hev _ _ hu) (hev _ _ hu2))
    simpa [execOp, e] using this
  · -- load
    rename_i t x e
    rw [Option.bind_eq_some_iff] at h; obtain ⟨u, hu, h⟩ := h
    rw [Option.bind_eq_some_iff] at h; obtain ⟨u2, hu2, h⟩ := h
    cases h
    have := Comes1.quiet hR (load_ok (P := P) hR hu2 (hev _ _ hu))
    simpa [execOp, e] using this
  · -- store
    rename_i t x y e
    rw [Option.bind_eq_some_iff] at h; obtain ⟨u, hu, h⟩ := h
    rw [Option.bind_eq_some_iff] at h; obtain ⟨u2, hu2, h⟩ := h
    rw [Option.bind_eq_some_iff] at h; obtain ⟨st2, hst2, h⟩ := h
    cases h
    obtain ⟨w', hw, hstep⟩ := store_ok (P := P) hR hst2 (hev _ _ hu) (hev _ _ hu2)
    exact ⟨r, w', hstep, .inr ⟨by simp [execOp, e, hw], rfl⟩⟩
  · -- nilCheck
    rename_i x e
    rw [Option.bind_eq_some_iff] at h; obtain ⟨u, hu, h⟩ := h
    have hcu := hev _ _ hu
    generalize hq : ρ x = xv at hcu
    split at h
    · cases h
      cases hcu with
      | ptr off sp hr => exact Comes1.same hR ⟨_, by simp [execOp, e, hq], .ptr off sp hr⟩
    · cases h
      cases hcu with
      | func f hf hx hy => exact Comes1.same hR ⟨_, by simp [execOp, e, hq], .func _ hf hx hy⟩
    · cases h
      cases hcu with
      | @iface t _ v2 hv => exact Comes1.same hR ⟨.iface _ v2, by simp [execOp, e, hq], .iface _ hv⟩
    · rw [Option.bind_eq_some_iff] at h; obtain ⟨un, hun, h⟩ := h
      cases h
      cases hcu with
      | @func _ hf xs ys xs' ys' hx hy =>
      refine Comes1.same hR ⟨.func (.method _) ⟨xs'⟩ ⟨ys'⟩, ?_, .func _ hf hx hy⟩
      unfold nilFnP at hun
      split at hun
      · rename_i t v0 tl hxs
        simp only at hxs
        subst hxs
        cases hx with
        | cons hv htl =>
        cases hv with
        | @iface _ _ v2 hv2 =>
        simp [execOp, e, hq, nilAhead_ok hun w (v := v2)]
      · cases hun
    · cases h
  · -- field
    rename_i t x f e
    rw [Option.bind_eq_some_iff] at h; obtain ⟨u, hu, h⟩ := h
    rw [Option.bind_eq_some_iff] at h; obtain ⟨u2, hu2, h⟩ := h
    cases h
    have := Comes1.quiet hR (field_ok (P := P) (w := w) hu2 (hev _ _ hu))
    simpa [execOp, e] using this
  · -- fieldAddr
    rename_i t x f e
    rw [Option.bind_eq_some_iff] at h; obtain ⟨u, hu, h⟩ := h
    rw [Option.bind_eq_some_iff] at h; obtain ⟨u2, hu2, h⟩ := h
    cases h
    have := Comes1.quiet hR (fieldAddr_ok (P := P) (w := w) hu2 (hev _ _ hu))
    simpa [execOp, e] using this
  · -- indexAddr
    rename_i t x i e
    rw [Option.bind_eq_some_iff] at h; obtain ⟨u, hu, h⟩ := h
    rw [Option.bind_eq_some_iff] at h; obtain ⟨u3, hu3, h⟩ := h
    rw [Option.bind_eq_some_iff] at h; obtain ⟨u2, hu2, h⟩ := h
    cases h
    have := Comes1.quiet hR (indexAddr_ok (P := P) (w := w) hu2 (hev _ _ hu) (hev _ _ hu3))
    simpa [execOp, e] using this
  · -- slice
    rename_i t x lo hi mx e
    rw [Option.bind_eq_some_iff] at h; obtain ⟨u, hu, h⟩ := h
    split at h
    · exact Comes1.plain hR hev h
    · exact Comes1.plain hR hev h
    · rw [Option.bind_eq_some_iff] at h; obtain ⟨lo', hlo, h⟩ := h
      rw [Option.bind_eq_some_iff] at h; obtain ⟨hi', hhi, h⟩ := h
      rw [Option.bind_eq_some_iff] at h; obtain ⟨mx', hmx, h⟩ := h
      rw [Option.bind_eq_some_iff] at h; obtain ⟨u2, hu2, h⟩ := h
      cases h
      have := Comes1.quiet hR (slice_ok (P := P) (w := w) hR hu2 (hev _ _ hu) (evalO_ok hev hlo) (evalO_ok hev hhi) (evalO_ok hev hmx))
      simpa [execOp, e] using this
  · -- makeInterface
    rename_i t x e
    rw [Option.bind_eq_some_iff] at h; obtain ⟨u, hu, h⟩ := h
    rw [Option.bind_eq_some_iff] at h; obtain ⟨d, hd, h⟩ := h
    split at h
    · cases h
    · rename_i hni
      cases h
      refine Comes1.same hR ⟨.iface t (ρ x), ?_, .iface t (hev _ _ hu)⟩
      simp only [execOp, e, Instr.makeInterface, Sem.run_bind, run_underlying hd, Result.andThen_ok]
      cases d <;> first | exact absurd rfl (hni _) | rfl
  · -- makeFunc
    rename_i fn x y e
    split at h
    · rename_i fid
      rw [Option.bind_eq_some_iff] at h; obtain ⟨u, hu, h⟩ := h
      rw [Option.bind_eq_some_iff] at h; obtain ⟨u2, hu2, h⟩ := h
      cases h
      have h1 := evalL_ok hev hu
      have h2 := evalL_ok hev hu2
      refine Comes1.same hR ⟨.func (.func fid) (x.map ρ) (y.map ρ), by simp [execOp, e, Instr.makeFunc], ?_⟩
      have e1 : x.map ρ = ⟨x.toList.map ρ⟩ := by apply Array.toList_inj.1; simp
      have e2 : y.map ρ = ⟨y.toList.map ρ⟩ := by apply Array.toList_inj.1; simp
      rw [e1, e2]
      exact .func _ (by simp) h1 h2
    · rename_i fid
      rw [Option.bind_eq_some_iff] at h; obtain ⟨u, hu, h⟩ := h
      rw [Option.bind_eq_some_iff] at h; obtain ⟨u2, hu2, h⟩ := h
      cases h
      have h1 := evalL_ok hev hu
      have h2 := evalL_ok hev hu2
      refine Comes1.same hR ⟨.func (.method fid) (x.map ρ) (y.map ρ), by simp [execOp, e, Instr.makeFunc], ?_⟩
      have e1 : x.map ρ = ⟨x.toList.map ρ⟩ := by apply Array.toList_inj.1; simp
      have e2 : y.map ρ = ⟨y.toList.map ρ⟩ := by apply Array.toList_inj.1; simp
      rw [e1, e2]
      exact .func _ (by simp) h1 h2
    · cases h
  · -- convert
    rename_i src dst x e
    rw [Option.bind_eq_some_iff] at h; obtain ⟨u, hu, h⟩ := h
    split at h
    · rename_i q hq
      cases h
      have := Comes1.val (conv_ok (P := P) hR hf hq (hev _ _ hu))
      simpa [execOp, e] using this
    · exact Comes1.plain hR hev h
  · -- typeAssert
    rename_i x xt T ok e
    rw [Option.bind_eq_some_iff] at h; obtain ⟨u, hu, h⟩ := h
    split at h
    · rename_i q hq
      cases h
      have := Comes1.quiet hR (assert_ok (P := P) (w := w) (xt := xt) hq (hev _ _ hu))
      simpa [execOp, e] using this
    · exact Comes1.plain hR hev h
  · -- binOp
    rename_i op t x y yt e
    rw [Option.bind_eq_some_iff] at h; obtain ⟨u, hu, h⟩ := h
    rw [Option.bind_eq_some_iff] at h; obtain ⟨u2, hu2, h⟩ := h
    split at h
    · rename_i q hq
      cases h
      obtain ⟨h1, h2⟩ := int_ok (P := P) (a := x) (b := y) hq (hev _ _ hu) (hev _ _ hu2) w
      have := Comes1.quiet hR ⟨_, h1, VR.closed (r := r) _ h2⟩
      simpa [execOp, e] using this
    split at h
    · rename_i q hq
      cases h
      obtain ⟨h1, h2⟩ := eq_ok (P := P) (a := x) (b := y) hq (hev _ _ hu) (hev _ _ hu2) w
      have := Comes1.quiet hR ⟨_, h1, VR.closed (r := r) _ h2⟩
      simpa [execOp, e] using this
    · split at h
      · rename_i q hq
        cases h
        obtain ⟨h1, h2⟩ := ptrEq_ok (P := P) (a := x) (b := y) hR hq (hev _ _ hu) (hev _ _ hu2)
        have := Comes1.quiet hR ⟨_, h1, VR.closed (r := r) _ h2⟩
        simpa [execOp, e] using this
      · exact Comes1.plain hR hev h
  · -- range
    rename_i t x e
    rw [Option.bind_eq_some_iff] at h; obtain ⟨u, hu, h⟩ := h
    split at h
    · have := Comes1.val (rangeM_ok (P := P) hR hf h (hev _ _ hu))
      simpa [execOp, e] using this
    · have := Comes1.val (rangeS_ok (P := P) hR hf h (hev _ _ hu))
      simpa [execOp, e] using this
  · -- next
    rename_i it b e
    rw [Option.bind_eq_some_iff] at h; obtain ⟨u, hu, h⟩ := h
    have := Comes1.val (next_ok (P := P) (ty := o.type) hR h (hev _ _ hu))
    simpa [execOp, e] using this
  · -- entry
    rename_i it e
    rw [Option.bind_eq_some_iff] at h; obtain ⟨u, hu, h⟩ := h
    rw [Option.bind_eq_some_iff] at h; obtain ⟨u2, hu2, h⟩ := h
    cases h
    have := Comes1.quiet hR (entry_ok (P := P) hR hu2 (hev _ _ hu))
    simpa [execOp, e] using this
  · -- makeMap
    rename_i t x e
    rw [Option.bind_eq_some_iff] at h; obtain ⟨u, hu, h⟩ := h
    have := Comes1.val (makeMap_ok (P := P) hR hf h (evalO_ok hev hu))
    simpa [execOp, e] using this
  · -- lookup
    rename_i t m k b e
    rw [Option.bind_eq_some_iff] at h; obtain ⟨u, hu, h⟩ := h
    rw [Option.bind_eq_some_iff] at h; obtain ⟨u2, hu2, h⟩ := h
    rw [Option.bind_eq_some_iff] at h; obtain ⟨u3, hu3, h⟩ := h
    cases h
    have := Comes1.quiet hR (lookup_ok (P := P) hR hu3 (hev _ _ hu) (hev _ _ hu2))
    simpa [execOp, e] using this
  · -- mapUpdate
    rename_i t m k x e
    rw [Option.bind_eq_some_iff] at h; obtain ⟨u, hu, h⟩ := h
    rw [Option.bind_eq_some_iff] at h; obtain ⟨u2, hu2, h⟩ := h
    rw [Option.bind_eq_some_iff] at h; obtain ⟨u3, hu3, h⟩ := h
    rw [Option.bind_eq_some_iff] at h; obtain ⟨st2, hst2, h⟩ := h
    cases h
    obtain ⟨w', hw, hstep⟩ := mapUpdate_ok (P := P) hR hst2 (hev _ _ hu) (hev _ _ hu2) (hev _ _ hu3)
    exact ⟨r, w', hstep, .inr ⟨by simp [execOp, e, hw], rfl⟩⟩
  · -- insert
    rename_i t m k x e
    rw [Option.bind_eq_some_iff] at h; obtain ⟨u, hu, h⟩ := h
    rw [Option.bind_eq_some_iff] at h; obtain ⟨u2, hu2, h⟩ := h
    rw [Option.bind_eq_some_iff] at h; obtain ⟨u3, hu3, h⟩ := h
    rw [Option.bind_eq_some_iff] at h; obtain ⟨st2, hst2, h⟩ := h
    cases h
    obtain ⟨w', hw, hstep⟩ := mapUpdate_ok (P := P) hR hst2 (hev _ _ hu) (hev _ _ hu2) (hev _ _ hu3)
    exact ⟨r, w', hstep, .inr ⟨by simp [execOp, e, hw], rfl⟩⟩
  · -- builtins
    rename_i b args argTypes e
    rw [Option.bind_eq_some_iff] at h; obtain ⟨vs, hvs, h⟩ := h
    have hl := evalL_ok hev hvs
    split at h
    · rename_i s x
      obtain ⟨s', x', hargs, hs, hx⟩ : ∃ s' x', args.map ρ = #[s', x'] ∧ VR r s s' ∧ VR r x x' := by
        generalize hm : args.toList.map ρ = l at hl
        cases hl with
        | cons h1 hl =>
        cases hl with
        | cons h2 hl =>
        cases hl
        exact ⟨_, _, by apply Array.toList_inj.1; simpa using hm, h1, h2⟩
      have := Comes1.val (append_ok (ty := o.type) hR hf h hs hx)
      simpa [execOp, e, resolve, invoke, builtin, hargs] using this
    · rename_i s x
      obtain ⟨s', x', hargs, hs, hx⟩ : ∃ s' x', args.map ρ = #[s', x'] ∧ VR r s s' ∧ VR r x x' := by
        generalize hm : args.toList.map ρ = l at hl
        cases hl with
        | cons h1 hl =>
        cases hl with
        | cons h2 hl =>
        cases hl
        exact ⟨_, _, by apply Array.toList_inj.1; simpa using hm, h1, h2⟩
      obtain ⟨w', v', h1, h2, h3⟩ := copy_ok (P := P) (ty := o.type) hR h hs hx
      have := Comes1.val ⟨r, w', v', h1, h2, h3⟩
      simpa [execOp, e, resolve, invoke, builtin, hargs] using this
    · -- delete
      rename_i m k
      obtain ⟨m', k', hargs, hm, hk⟩ : ∃ m' k', args.map ρ = #[m', k'] ∧ VR r m m' ∧ VR r k k' := by
        generalize hm : args.toList.map ρ = l at hl
        cases hl with
        | cons h1 hl =>
        cases hl with
        | cons h2 hl =>
        cases hl
        exact ⟨_, _, by apply Array.toList_inj.1; simpa using hm, h1, h2⟩
      have := Comes1.val (delete_ok (P := P) (ty := o.type) hR h hm hk)
      simpa [execOp, e, resolve, invoke, builtin, hargs] using this
    · -- len of a map
      rename_i i
      obtain ⟨x', hargs, hx⟩ : ∃ x', args.map ρ = #[x'] ∧ VR r (.map (some i)) x' := by
        generalize hm : args.toList.map ρ = l at hl
        cases hl with
        | cons h1 hl =>
        cases hl
        exact ⟨_, by apply Array.toList_inj.1; simpa using hm, h1⟩
      split at h
      · rename_i t tl ht
        rw [Option.bind_eq_some_iff] at h; obtain ⟨⟨kt, elem⟩, hd, h⟩ := h
        rw [Option.bind_eq_some_iff] at h; obtain ⟨⟨es, c⟩, hmp, h⟩ := h
        cases h
        have hd := mapDesc_ok hd
        have ht0 : argTypes[0]? = some t := by rw [← Array.getElem?_toList, ht]; rfl
        obtain ⟨hg, b, kk, es', hr, hE, hb⟩ := map_at hR hmp
        cases hx with
        | map hr2 =>
        rw [hr] at hr2
        cases hr2
        have hget := getObj_run (P := P) hb (fun _ _ _ h => by cases h)
        refine Comes1.same hR ⟨.int .i64 (es.length : Nat), ?_, .int _ _⟩
        simp [execOp, e, resolve, invoke, builtin, hargs, Builtin.len_, ht0, run_underlying hd, hget, hE.length, goInt]
      · cases h
    · -- clear
      rename_i x
      obtain ⟨x', hargs, hx⟩ : ∃ x', args.map ρ = #[x'] ∧ VR r x x' := by
        generalize hm : args.toList.map ρ = l at hl
        cases hl with
        | cons h1 hl =>
        cases hl
        exact ⟨_, by apply Array.toList_inj.1; simpa using hm, h1⟩
      have := Comes1.val (clear_ok (P := P) (ty := o.type) hR h hx)
      simpa [execOp, e, resolve, invoke, builtin, hargs] using this
    · -- len
      rename_i ad n c
      obtain ⟨x', hargs, hx⟩ : ∃ x', args.map ρ = #[x'] ∧ VR r (.slice (some ad) n c) x' := by
        generalize hm : args.toList.map ρ = l at hl
        cases hl with
        | cons h1 hl =>
        cases hl
        exact ⟨_, by apply Array.toList_inj.1; simpa using hm, h1⟩
      split at h
      · rename_i t tl ht
        rw [Option.bind_eq_some_iff] at h; obtain ⟨d, hd, h⟩ := h
        split at h
        · rename_i elem
          cases h
          have ht0 : argTypes[0]? = some t := by rw [← Array.getElem?_toList, ht]; rfl
          refine Comes1.same hR ⟨.int .i64 (n : Int), ?_, .int _ _⟩
          cases hx <;> simp [execOp, e, resolve, invoke, builtin, hargs, Builtin.len_, ht0, run_underlying hd, goInt]
        · cases h
      · cases h
    · -- cap
      rename_i ad n c
      obtain ⟨x', hargs, hx⟩ : ∃ x', args.map ρ = #[x'] ∧ VR r (.slice (some ad) n c) x' := by
        generalize hm : args.toList.map ρ = l at hl
        cases hl with
        | cons h1 hl =>
        cases hl
        exact ⟨_, by apply Array.toList_inj.1; simpa using hm, h1⟩
      split at h
      · rename_i t tl ht
        rw [Option.bind_eq_some_iff] at h; obtain ⟨d, hd, h⟩ := h
        split at h
        · rename_i elem
          simp only [cond_eq_ite] at h
          split at h
          · cases h
          rename_i hbig
          have hbig : ¬ big ≤ c := fun h => hbig (Nat.ble_eq_true_of_le h)
          cases h
          have ht0 : argTypes[0]? = some t := by rw [← Array.getElem?_toList, ht]; rfl
          refine Comes1.same hR ⟨.int .i64 (c : Int), ?_, .int _ _⟩
          cases hx with
          | slice _ _ _ _ _ => simp [execOp, e, resolve, invoke, builtin, hargs, Builtin.cap_, ht0, run_underlying hd, goInt]
          | sliceBig _ _ _ _ hc => exact absurd hc hbig
          | sliceEnd _ _ _ _ hc => exact absurd hc hbig
        · cases h
      · cases h
    · exact Comes1.plain hR hev h
  · cases h
  · exact Comes1.plain hR hev h
end Ev
end Go.Proofs.Ytgafkphhnlifiaa
