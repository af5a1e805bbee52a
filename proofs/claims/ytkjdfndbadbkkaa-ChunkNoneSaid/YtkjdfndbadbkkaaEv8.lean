/- Regions in the text's order, code, calls: the whole run, but for regions that draw their order. No program is named here. -/
import Derived.Test.YtkjdfndbadbkkaaEv7
import Derived.TacticsIn
namespace Go.Proofs.Ytkjdfndbadbkkaa
namespace Ev
set_option linter.unusedVariables false
set_option linter.unusedSimpArgs false
open Go.RowKit
variable {P : Program} {G : Cx} {rec : Task → Option Res}

theorem semAt_ok {ro : Option Nat} {ρ : Operand → Value} {o : Oper} (h : ∀ c, o.op ≠ .defer c) : o.semAt (WF ro).round ρ = execOp ρ o := by
  cases ro with
  | none => exact Oper.semAt_none ρ o
  | some l => exact Oper.semAt_some l ρ o h
theorem defer_no {τ : Tr Value} {o : Oper} {st : St} {c : Call} (h : o.op = .defer c) : opP P G rec τ o st = none := by
  unfold opP
  rw [h]
  simp only [op1, h]
  simp [plainP, h]

theorem ops_ok {ro : Option Nat} {m : Nat} {all : List Oper} (hrec : RecOk P G rec) (hN : Kn P G) : ∀ {l : List Oper} {fr fr' : Fr} {st st' : St} {r : Ren} {w : World} {a : Act} {Q : Exit → Act → World → Prop}, opsP P G rec all l fr st = some (fr', st') → Rel G r st w → FrR r fr a → Fresh r st.n st'.n →
    (∀ r' w' a', Step G r st w r' st' w' → FrR r' fr' a' → Q .normal a' w') → wpListIn (WF ro) m P all.toArray Q l a w
  | [], fr, fr', st, st', r, w, a, Q, h, hR, hF, hf, hQ => by
    simp [opsP] at h
    obtain ⟨rfl, rfl⟩ := h
    exact hQ r w a (Step.refl hR) hF
  | o :: l, fr, fr', st, st', r, w, a, Q, h, hR, hF, hf, hQ => by
    unfold opsP at h
    unfold wpListIn
    rw [← wanted_ok hF.tmps]
    split at h
    · rename_i hw
      rw [hw, if_pos rfl]
      rw [Option.bind_eq_some_iff] at h; obtain ⟨⟨v, st1⟩, hop, h⟩ := h
      rw [Option.bind_eq_some_iff] at h; obtain ⟨fr1, hput, h⟩ := h
      rw [Option.bind_eq_some_iff] at h; obtain ⟨q, hq, h⟩ := h
      obtain ⟨hle, h⟩ := cond_none h
      cases h
      have hle := Nat.le_of_ble_eq_true hle
      have hnd : ∀ c, o.op ≠ .defer c := fun c hc => by rw [defer_no hc] at hop; cases hop
      refine ⟨fun _ _ => trivial, ?_⟩
      rw [semAt_ok hnd]
      refine op_ok hrec hN hR (eval_ok hR hF.tmps) (hf.less hle) hop a _ Q fun r1 w1 v1 hs hv => ?_
      exact ops_ok hrec hN hq hs.rel (put_ok hput (hF.mono hs.le) hv) (hs.rest hf) fun r' w' a' hs' hF' => hQ r' w' a' (hs.trans hs') hF'
    · rename_i hw
      rw [hw]
      refine ⟨fun _ _ => trivial, ?_⟩
      rw [Option.bind_eq_some_iff] at h; obtain ⟨fr1, hput, h⟩ := h
      exact ops_ok hrec hN h hR (put_ok hput hF undef_ok) hf hQ

theorem shut_ok {Fc : Fence} {m : Nat} {fn : Func} {tmps : Array Value} {R : Ending → World → Prop} : ∀ {ds : List Nat} {l : List Deferred} {st st' : St} {r : Ren} {w : World}, shutP ds st = some st' → Rel G r st w → DR r ds l →
    (∀ w', Step G r st w r st' w' → ∃ v, (results fn tmps).run P w' = .ok v w' ∧ R (.returned v) w') → LeavesInM Fc m P fn tmps R l .returning w
  | [], _, st, st', r, w, h, hR, .nil, hQ => by
    simp [shutP] at h
    subst h
    exact hQ w (Step.refl hR)
  | d :: ds, _, st, st', r, w, h, hR, .cons (b := b) hr hl, hQ => by
    unfold shutP at h
    split at h
    · rename_i hg
      obtain ⟨b2, k2, hr2, hob⟩ := hR.obj d _ hg
      rw [hr] at hr2
      cases hr2
      have hlt := (Array.getElem?_eq_some_iff.1 hob).1
      have hs := Step.drop (w' := w.putObj b (.deferred none)) hR hg hr (fun c hc => World.putObj_heap_other hc) (by simp) rfl rfl rfl
      refine ⟨by simp, .inl ⟨b, _, rfl, run_takeDeferred hob, ?_⟩⟩
      exact shut_ok h hs.rel hl fun w' hs' => hQ w' (hs.trans hs')
    · cases h
theorem shut_n : ∀ {ds : List Nat} {st st' : St}, shutP ds st = some st' → st'.n = st.n
  | [], st, st', h => by simp [shutP] at h; rw [h]
  | d :: ds, st, st', h => by
    unfold shutP at h
    split at h
    · exact shut_n (st := { H := st.H.put d none, n := st.n, W := d :: st.W }) h
    · cases h
theorem resL_ok {r : Ren} {τ : Tr Value} {tmps : Array Value} {st : St} {w : World} (hR : Rel G r st w) (hT : TR r τ tmps) : ∀ {l : List ResultVar} {vs : List Value}, resL P τ st l = some vs →
    ∃ vs', (l.mapM fun | .tmp t => pure (tmps.getD t undef) | .cell a t => do loadVar t (← asAddr (tmps.getD a undef)) : Sem (List Value)).run P w = .ok vs' w ∧ LR r vs vs'
  | [], vs, h => by simp [resL] at h; subst h; exact ⟨[], rfl, .nil⟩
  | .tmp t :: l, vs, h => by
    unfold resL at h
    rw [Option.bind_eq_some_iff] at h; obtain ⟨vs1, hvs, h⟩ := h
    cases h
    obtain ⟨vs', h1, h2⟩ := resL_ok hR hT hvs
    refine ⟨tmps.getD t undef :: vs', ?_, .cons (hT t) h2⟩
    rw [List.mapM_cons]
    simp only [Sem.run_bind, Sem.run_pure, Result.andThen_ok, h1]
  | .cell c t :: l, vs, h => by
    unfold resL at h
    rw [Option.bind_eq_some_iff] at h; obtain ⟨v, hv, h⟩ := h
    rw [Option.bind_eq_some_iff] at h; obtain ⟨vs1, hvs, h⟩ := h
    cases h
    obtain ⟨vs', h1, h2⟩ := resL_ok hR hT hvs
    obtain ⟨v', hv1, hv2⟩ := load_ok (P := P) hR hv (hT c)
    refine ⟨v' :: vs', ?_, .cons hv2 h2⟩
    have hv3 : (do loadVar t (← asAddr (tmps.getD c undef)) : Sem Value).run P w = .ok v' w := by
      unfold Instr.loadAt at hv1
      have hh := hT c
      generalize (τ.get c).getD undef = x at *
      generalize tmps.getD c undef = y at *
      cases hh <;> first | (simp [loadP] at hv; done) | exact hv1
    rw [List.mapM_cons]
    simp only [Sem.run_bind, Result.andThen_ok, Sem.run_pure] at hv3 ⊢
    rw [hv3]
    simp only [Result.andThen_ok, h1]
theorem result_ok {r : Ren} {fn : Func} {τ : Tr Value} {tmps : Array Value} {st : St} {w : World} {v : Value} (hR : Rel G r st w) (hT : TR r τ tmps) (h : resultP P fn τ st = some v) :
    ∃ v', (results fn tmps).run P w = .ok v' w ∧ VR r v v' := by
  unfold resultP at h
  rw [Option.bind_eq_some_iff] at h; obtain ⟨vs, hvs, h⟩ := h
  obtain ⟨vs', h1, h2⟩ := resL_ok hR hT hvs
  have hrun : (results fn tmps).run P w = .ok (if h : vs'.toArray.size = 1 then vs'.toArray[0] else .tuple vs'.toArray) w := by
    unfold results
    rw [Array.mapM_eq_mapM_toList]
    simp only [Sem.run_bind, Sem.run_map, Sem.run_pure]
    erw [h1]
    rfl
  refine ⟨_, hrun, ?_⟩
  split at h
  · cases h
    cases h2 with
    | cons hv hl =>
    cases hl
    simpa using hv
  · rename_i hne
    cases h
    have : ¬ vs'.toArray.size = 1 := by
      intro hs
      have hl := h2.length
      rw [List.size_toArray, hl] at hs
      match vs, hs with
      | [x], _ => exact hne x rfl
    rw [dif_neg this]
    exact .tuple h2
theorem argTr_ok {r : Ren} {args args' : List Value} {N : Nat} (h : LR r args args') (hn : args.length ≤ N) : TR r (argTr args) (args'.toArray ++ Array.replicate (N - args'.toArray.size) undef) := by
  have key : ∀ (args : List Value) (k : Nat) (τ : Tr Value) (t : Nat), (seedTr τ (List.range' k args.length) args).get t = if k ≤ t ∧ t < k + args.length then args[t - k]? else τ.get t := by
    intro args
    induction args with
    | nil => intro k τ t; simp [seedTr]; omega
    | cons v args ih =>
      intro k τ t
      simp only [List.length_cons, List.range'_succ, seedTr]
      rw [ih, Tr.get_put]
      by_cases h1 : t = k
      · subst h1; rw [if_neg (by omega), if_pos rfl, if_pos (by omega)]; simp
      · by_cases h2 : k ≤ t ∧ t < k + (args.length + 1)
        · rw [if_pos (by omega), if_pos h2]
          have : t - k = (t - (k + 1)) + 1 := by omega
          rw [this, List.getElem?_cons_succ]
        · rw [if_neg (by omega), if_neg h1, if_neg h2]
  intro t
  have hl := h.length
  unfold argTr
  rw [List.range_eq_range', key]
  by_cases ht : t < args.length
  · rw [if_pos (by omega)]
    obtain ⟨v', hv', hvr⟩ := h.at_ t (List.getElem?_eq_getElem (l := args) ht)
    have e : (args'.toArray ++ Array.replicate (N - args'.toArray.size) undef).getD t undef = v' := by
      rw [Array.getD_eq_getD_getElem?, Array.getElem?_append_left (by simp; omega)]
      simp [hv']
    rw [e]
    simpa [List.getElem?_eq_getElem (l := args) ht] using hvr
  · rw [if_neg (by omega), Tr.get_nil]
    have e : (args'.toArray ++ Array.replicate (N - args'.toArray.size) undef).getD t undef = undef := by
      rw [Array.getD_eq_getD_getElem?, Array.getElem?_append_right (by simp; omega)]
      simp only [Array.getElem?_replicate]
      split <;> rfl
    rw [e]
    exact undef_ok
theorem call_ok {f : Nat} {args : List Value} {st : St} {res : Res} (hrec : RecOk P G rec) (h : callP P rec f args st = some res) : CallOk P G f args st res := by
  intro r w args' m hR hl hf
  unfold callP at h
  rw [Option.bind_eq_some_iff] at h; obtain ⟨fn, hfn, h⟩ := h
  rw [Option.bind_eq_some_iff] at h; obtain ⟨c, hc, h⟩ := h
  obtain ⟨hb, h⟩ := cond_none h
  have hb := Nat.le_of_ble_eq_true hb
  rw [Option.bind_eq_some_iff] at h; obtain ⟨q, hq, h⟩ := h
  have hlen := hl.length
  have key : ∀ (h2 : ((shutP q.fr.ds q.st).bind fun st => (resultP P fn q.fr.τ st).bind fun v => some (⟨.normal, v, q.fr, st⟩ : Res)) = some res) (ho : outE q.out = .normal ∨ outE q.out = .ret),
      CallsIn (WF none) m P f args'.toArray w fun e w' => ∃ r' v', e = .returned v' ∧ VR r' res.v v' ∧ Step G r st w r' res.st w' := by
    intro h2 ho
    rw [Option.bind_eq_some_iff] at h2; obtain ⟨st2, hs2, h2⟩ := h2
    rw [Option.bind_eq_some_iff] at h2; obtain ⟨v, hv, h2⟩ := h2
    cases h2
    refine callsIn_of_wp_marks hfn hc trivial ?_
    have hA := (hrec _ _ hq).1 r w { tmps := args'.toArray ++ Array.replicate (fn.ntmps - args'.toArray.size) undef, defers := [] } none m hR ⟨by simp; omega, argTr_ok hl hb, .nil⟩ (.inl ⟨rfl, rfl⟩) (by rw [← shut_n hs2]; exact hf)
    refine wpIn_mono hA ?_
    rintro e a' w' ⟨rfl, r', hstep, hfr⟩
    have fin : LeavesInM (WF none) m P fn a'.tmps (fun e w' => ∃ r' v', e = .returned v' ∧ VR r' v v' ∧ Step G r st w r' st2 w') a'.defers .returning w' := by
      refine shut_ok hs2 hstep.rel hfr.defers fun w2 hs3 => ?_
      obtain ⟨v', hv1, hv2⟩ := result_ok (P := P) hs3.rel hfr.tmps hv
      exact ⟨v', hv1, r', v', rfl, hv2, hstep.trans hs3⟩
    rcases ho with ho | ho <;> rw [ho] <;> exact fin
  split at h
  · rename_i ho; exact key h (.inl (by rw [ho]; rfl))
  · rename_i ho; exact key h (.inr (by rw [ho]; rfl))
  · cases h

/-- What is asked of a region that draws its order. -/
def DrawOk (P : Program) (G : Cx) (rec : Task → Option Res) : Prop :=
  ∀ (ops : Array Oper) (fr fr' : Fr) (st st' : St) (recs : List Rc), drawP P G rec ops.toList ops.toList [] fr st = some (recs, fr', st') →
    ∀ (r : Ren) (w : World) (a : Act) (ro : Option Nat) (m : Nat) (id : Nat), Rel G r st w → FrR r fr a → Fresh r st.n st'.n → (Code.region id ops true).wpIn (WF ro) m P (CPost G r st w ⟨.normal, undef, fr', st'⟩) a w

theorem CPost.trans {r r1 : Ren} {st st1 : St} {w w1 : World} {res : Res} (h : Step G r st w r1 st1 w1) {e a' w'} (k : CPost G r1 st1 w1 res e a' w') : CPost G r st w res e a' w' := by
  obtain ⟨h1, r', h2, h3⟩ := k
  exact ⟨h1, r', h.trans h2, h3⟩
theorem exit_cases (Q : Exit → Act → World → Prop) (K : Act → World → Prop) {e : Exit} {a : Act} {w : World} (h1 : e = .normal → K a w) (h2 : e ≠ .normal → Q e a w) : Exit.then K Q e a w := by
  cases e <;> first | exact h1 rfl | exact h2 (by simp)
theorem outE_ne {o : Out} (h : ∀ (_ : o = .normal), False) : outE o ≠ .normal := by cases o <;> first | exact (h rfl).elim | simp [outE]

theorem loop_ok {b : Code} {rd : Option Nat} {fr : Fr} {st : St} {res : Res} (hrec : RecOk P G rec) (h : codeP P G rec (.loop b) rd fr st = some res) : LoopOk P G b rd fr st res := by
  intro r w a ro m hR hF hrd hf bf k cs hro hb hr
  unfold codeP at h
  rw [Option.bind_eq_some_iff] at h; obtain ⟨q, hq, h⟩ := h
  have hA := (hrec _ _ hq).1
  split at h
  · rename_i ho
    obtain ⟨h, hmono⟩ := chk_ok h
    have hL := (hrec _ _ h).2 b rfl
    obtain ⟨e, a1, w1, ⟨rfl, r', hstep, hfr⟩, harr⟩ := hA r w a ro m hR hF hrd (hf.less hmono) bf (.inLoop b :: k) cs hro hb hr
    rw [ho] at harr
    obtain ⟨e2, a2, w2, hq2, harr2⟩ := hL r' w1 a1 ro m hstep.rel hfr (hrd.mono hstep.le) (hstep.rest hf) bf k cs hro hb hr
    exact ⟨e2, a2, w2, CPost.trans hstep hq2, .of_steps (StepsIn.trans harr (.one (fenced_calm (fr := bf.atR a1 (.inLoop b :: k)) hb hr rfl) stepR_inLoop)) harr2⟩
  · rename_i ho
    cases h
    obtain ⟨e, a1, w1, ⟨rfl, r', hstep, hfr⟩, harr⟩ := hA r w a ro m hR hF hrd hf bf (.inLoop b :: k) cs hro hb hr
    exact ⟨_, a1, w1, ⟨rfl, r', hstep, hfr⟩, .pass (x := .inLoop b) rfl (fun _ _ => .inl (outE_ne ho)) harr⟩
theorem loop_code {b : Code} {rd : Option Nat} {fr : Fr} {st : St} {res : Res} (h : LoopOk P G b rd fr st res) : CodeOk P G (.loop b) rd fr st res := by
  intro r w a ro m hR hF hrd hf bf k cs hro hb hr
  obtain ⟨e, a1, w1, hq, harr⟩ := h r w a ro m hR hF hrd hf bf k cs hro hb hr
  exact ⟨e, a1, w1, hq, .of_steps (.one (fenced_calm (fr := bf.atR a (.code (.loop b) :: k)) hb hr rfl) stepR_loop) harr⟩

theorem stepR_scope' {b : Frame} {a : Act} {k : List Item} {cs : List Frame} {w : World} {c : Code} : step P (lone (b.atR a (.code (.scope c) :: k)) cs w) = .next (lone (b.atR a (.code c :: .inScope c :: k)) cs w) :=
  step_lone_go (by simp [stepG, stepG.exec, Frame.atR])
theorem stepR_inScope' {b : Frame} {a : Act} {k : List Item} {cs : List Frame} {w : World} {c : Code} : step P (lone (b.atR a (.inScope c :: k)) cs w) = .next (lone (b.atR a k) cs w) :=
  step_lone_go (by simp [stepG, stepG.exec, Frame.atR])
theorem scoped_ok {all c : Code} {rd : Option Nat} {fr : Fr} {st : St} {res : Res} (hrec : RecOk P G rec) (h : scopedP rec all c rd fr st = some res) : ScOk P G all c rd fr st res := by
  intro r w a ro m hR hF hrd hf bf k cs hro hb hr
  unfold scopedP at h
  rw [Option.bind_eq_some_iff] at h; obtain ⟨q, hq, h⟩ := h
  have hA := (hrec _ _ hq).1
  have plain : ∀ (h2 : q = res) (hl : ∀ l, outE q.out = .goto l → findLabel all l = none), ∃ e a' w', CPost G r st w res e a' w' ∧ ArrivesIn (Machine.fenced P (WF ro)) P (lone (bf.atR a (.code c :: .inScope all :: k)) cs w) bf k cs e a' w' := by
    rintro rfl hl
    obtain ⟨e, a1, w1, ⟨rfl, r', hstep, hfr⟩, harr⟩ := hA r w a ro m hR hF hrd hf bf (.inScope all :: k) cs hro hb hr
    refine ⟨_, a1, w1, ⟨rfl, r', hstep, hfr⟩, ?_⟩
    cases ho : outE q.out with
    | normal => rw [ho] at harr; exact StepsIn.trans harr (.one (fenced_calm (fr := bf.atR a1 (.inScope all :: k)) hb hr rfl) stepR_inScope')
    | exit i =>
      rw [ho] at harr
      have hx : exitTo i (.inScope all :: k) = exitTo i k := by simp [exitTo]
      exact ⟨fun k' hk => harr.1 k' (by rw [hx]; exact hk), fun hr' hk => harr.2 hr' (by rw [hx]; exact hk)⟩
    | goto l =>
      rw [ho] at harr
      have hx : gotoIn l (.inScope all :: k) = gotoIn l k := by simp [gotoIn, hl l ho]
      exact ⟨fun k' hk => harr.1 k' (by rw [hx]; exact hk), fun hr' hk => harr.2 hr' (by rw [hx]; exact hk)⟩
    | ret => rw [ho] at harr; exact harr
    | panic ch => rw [ho] at harr; exact harr
    | outgrown => rw [ho] at harr; exact harr
  split at h
  · rename_i l ho
    split at h
    · rename_i rest hfl
      obtain ⟨h, hmono⟩ := chk_ok h
      obtain ⟨e, a1, w1, ⟨rfl, r', hstep, hfr⟩, harr⟩ := hA r w a ro m hR hF hrd (hf.less hmono) bf (.inScope all :: k) cs hro hb hr
      rw [ho] at harr
      obtain ⟨e2, a2, w2, hq2, harr2⟩ := hrec _ _ h r' w1 a1 ro m hstep.rel hfr (hrd.mono hstep.le) (hstep.rest hf) bf k cs hro hb hr
      have hg : gotoIn l (.inScope all :: k) = some (.code rest :: .inScope all :: k) := by simp [gotoIn, hfl]
      exact ⟨e2, a2, w2, CPost.trans hstep hq2, .of_steps (harr.1 _ hg) harr2⟩
    · rename_i hfl
      refine plain (by cases h; rfl) fun l' hl' => ?_
      rw [ho] at hl'
      cases hl'
      exact hfl
  · rename_i ho
    refine plain (by cases h; rfl) fun l' hl' => ?_
    cases hq2 : q.out <;> rw [hq2] at hl' <;> cases hl'
    exact absurd hq2 (ho _)

/-- The iterator's call, and what a pending jump leads to. -/
theorem range_call {rd : Option Nat} {fr1 : Fr} {st st1 : St} {res : Res} {k : Nat} {args args' : List Value} {L b kb : Nat} {r r1 : Ren} {w w1 : World} {a1 : Act} {ro : Option Nat} {m : Nat} (hrec : RecOk P G rec)
    (h : ((chk st1.n (rec (.call k args st1))).bind fun r => match r.st.H.get L with
          | some (.loop state pending τ N ps' asg' body' ar) => match state with
            | .busy => none
            | .exhausted => none
            | _ => match pending with
              | none => some ⟨.normal, undef, fr1, r.st.upd L (.loop .exhausted pending τ N ps' asg' body' ar)⟩
              | some c => chk r.st.n <| rec (.code c rd fr1 (r.st.upd L (.loop .exhausted pending τ N ps' asg' body' ar)))
          | _ => none) = some res)
    (hstep : Step G r st w r1 st1 w1) (hb : r1 L = some (b, kb)) (hF : FrR r1 fr1 a1) (hrd : RdR r rd ro) (hf : Fresh r st.n res.st.n) (hl : LR r1 args args') :
    CallsIn (WF ro) (m - 1) P k args'.toArray w1 (rangePost (WF ro) m P b (CPost G r st w res) a1) := by
  rw [Option.bind_eq_some_iff] at h; obtain ⟨q, hq, h⟩ := h
  obtain ⟨hq, hmono⟩ := chk_ok hq
  split at h
  case h_2 => cases h
  rename_i state pending τ N ps' asg' body' ar hget
  have hlast : q.st.n ≤ res.st.n := by
    cases state <;> first | (cases h; done) | skip
    all_goals
      cases pending with
      | none => cases h; exact Nat.le_refl _
      | some c => exact (chk_ok h).2
  have hA := hrec _ _ hq r1 w1 args' (m - 1) hstep.rel hl (hstep.rest (hf.less hlast))
  refine CallsIn.mono (show CallsIn (WF ro) (m - 1) P k args'.toArray w1 _ from hA) ?_
  rintro e w2 ⟨r2, v', rfl, hv, hs2⟩
  have hs := hstep.trans hs2
  obtain ⟨lp, g1, g2, g3, g4, g5, g6, g7, g8, _, gstep⟩ := loop_turn (P := P) (state' := .exhausted) (pending' := pending) hs.rel hget (hs2.le _ _ hb)
  have hnb : lp.state ≠ .busy := by rw [g1]; rintro rfl; cases h
  have hput : { lp with state := LoopState.exhausted, pending := pending } = { lp with state := LoopState.exhausted } := by rw [← g2]
  rw [hput] at gstep
  obtain ⟨w3, hw3, hs3⟩ : ∃ w3, (Instr.endLoop b).run P w2 = .ok pending w3 ∧ Step G r st w r2 (q.st.upd L (.loop .exhausted pending τ N ps' asg' body' ar)) w3 :=
    ⟨_, (run_endLoop g8 hnb).trans (by rw [g2]), by rw [← g2] at *; exact hs.trans gstep⟩
  refine ⟨pending, w3, hw3, ?_⟩
  have hF2 := hF.mono (Ren.le_trans hs2.le gstep.le)
  cases pending with
  | none =>
    have h' : some (⟨.normal, undef, fr1, q.st.upd L (.loop .exhausted none τ N ps' asg' body' ar)⟩ : Res) = some res := by
      cases state <;> first | (cases h; done) | exact h
    cases h'
    exact ⟨rfl, r2, hs3, hF2⟩
  | some c =>
    have h' : chk q.st.n (rec (.code c rd fr1 (q.st.upd L (.loop .exhausted (some c) τ N ps' asg' body' ar)))) = some res := by
      cases state <;> first | (cases h; done) | exact h
    obtain ⟨h', hm2⟩ := chk_ok h'
    exact wpIn_mono ((hrec _ _ h').1 r2 _ a1 ro m hs3.rel hF2 (hrd.mono hs3.le) (hs3.rest hf)) fun e a' w' hk => CPost.trans hs3 hk

theorem lead_fn {r : Ren} {f f' : Value} {args args' al : List Value} {k : Nat} (h : leadP P f args = some (.fn k al)) (hf : VR r f f') (ha : LR r args args') :
    ∃ (d : Deferred) (al' : List Value), LR r al al' ∧ (∀ w, (Deferred.ofValue f' args'.toArray).run P w = .ok d w) ∧ (∀ w, (invoke d.target d.args).run P w = (callFunc k al'.toArray).run P w) := by
  unfold leadP at h
  split at h
  · cases h
    cases hf with
    | @func _ _ xs ys xs' ys' hx hy =>
    exact ⟨{ target := .fn (.func k) ⟨ys'⟩, args := ⟨xs'⟩ ++ args'.toArray }, xs' ++ args' ++ ys', (hx.append ha).append hy, fun w => by simp [Deferred.ofValue], fun w => by simp [invoke]⟩
  · obtain ⟨hb, h⟩ := cond_none h
    cases h
  · cases h
theorem range_ok {f : Operand} {ps : Array Tmp} {asg body : Code} {rd : Option Nat} {fr : Fr} {st : St} {res : Res} (hrec : RecOk P G rec) (hN : Kn P G) (h : codeP P G rec (.rangeFunc f ps asg body) rd fr st = some res) : CodeOk P G (.rangeFunc f ps asg body) rd fr st res := by
  intro r w a ro m hR hF hrd hf
  unfold codeP at h
  rw [Option.bind_eq_some_iff] at h; obtain ⟨fv, hfv, h⟩ := h
  rw [Option.bind_eq_some_iff] at h; obtain ⟨⟨L, st1, ds⟩, henter, h⟩ := h
  dsimp only at h
  rw [Option.bind_eq_some_iff] at h; obtain ⟨ld, hld, h⟩ := h
  cases ld with
  | round l al => cases h
  | fn k al =>
  dsimp only at h
  rw [Option.bind_eq_some_iff] at h; obtain ⟨kf, hkf, h⟩ := h
  rw [Option.bind_eq_some_iff] at h; obtain ⟨kc, hkc, h⟩ := h
  have hev := eval_ok (a := a) hR hF.tmps f fv hfv
  have hlt : st1.n ≤ res.st.n := by
    rw [Option.bind_eq_some_iff] at h; obtain ⟨q, hq, h⟩ := h
    have h1 := (chk_ok hq).2
    have h2 : q.st.n ≤ res.st.n := by
      split at h
      · rename_i state pending τ N ps' asg' body' ar hget
        cases state <;> first | (cases h; done) | skip
        all_goals
          cases pending with
          | none => cases h; exact Nat.le_refl _
          | some c => exact (chk_ok h).2
      · cases h
    omega
  -- the call, whatever the record's block
  have call : ∀ (b kb : Nat) (r1 : Ren) (w1 : World) (mark : List Deferred), Step G r st w r1 st1 w1 → r1 L = some (b, kb) → FrR r1 { fr with ds := ds } { a with defers := mark ++ a.defers } →
      ∃ (d : Deferred) (w1' : World) (f' : FuncId) (args : Array Value) (w2 : World), (resolve a.eval (rangeCall f b) 0).run P w1 = .ok d w1' ∧ (∀ f', Target.leads P w1' d.target d.args = some f' → (WF ro).fn f') ∧ (invoke d.target d.args).run P w1' = .ok (.enter f' args) w2 ∧
        ((WF ro).depth.isSome = true → 1 ≤ m) ∧ CallsIn (WF ro) (m - 1) P f' args w2 (rangePost (WF ro) m P b (CPost G r st w res) { a with defers := mark ++ a.defers }) := by
    intro b kb r1 w1 mark hstep hb hF1
    have hy : VR r1 (.func (.yield L) #[] #[]) (.func (.yield b) #[] #[]) := .yield hb .nil .nil
    obtain ⟨d, al', hal, hd1, hd2⟩ := lead_fn hld (hev.mono hstep.le) (.cons hy .nil)
    refine ⟨d, w1, k, al'.toArray, w1, ?_, fun _ _ => trivial, ?_, fun h => by simp [WF] at h, ?_⟩
    · simp only [resolve, rangeCall]
      have := hd1 w1
      simpa [Act.eval] using this
    · rw [hd2]
      have hn := hN.num k kf hkf
      have hn' : ¬ kf.name = "runtime.NumGoroutine" := by simpa using hn
      simp [callFunc, hkf, hn', hkc]
    · exact range_call hrec h hstep hb hF1 hrd hf hal
  refine wpIn_rangeFunc ?_
  intro fn _
  rcases hrd with ⟨rfl, rfl⟩ | ⟨l0, b0, k0, rfl, rfl, hr0⟩
  · cases henter
    have hf0 : r st.n = none := hf _ (Nat.le_refl _) (by simp [St.new] at hlt; omega)
    have s1 : Step G r st w (r.set st.n (w.heap.size, 0)) (st.new .deferred) (w.alloc (.deferred (some []))) :=
      Step.alloc hR hf0 (fun r' hr' => heap_alloc_new w _) (fun b hb => Below.heap_alloc _ _ _ hb) (by simp) rfl rfl rfl
    have hf1 : (r.set st.n (w.heap.size, 0)) (st.new .deferred).n = none := by
      have := hf (st.n + 1) (by omega) (by simp [St.new] at hlt; omega)
      simp [Ren.set, St.new, this]
    have s2 : Step G (r.set st.n (w.heap.size, 0)) (st.new .deferred) (w.alloc (.deferred (some []))) ((r.set st.n (w.heap.size, 0)).set (st.new .deferred).n ((w.alloc (.deferred (some []))).heap.size, 0)) ((st.new .deferred).new (.loop .ready none fr.τ fr.N ps asg body st.n))
        ((w.alloc (.deferred (some []))).alloc (.loop { state := .ready, pending := none, fn, tmps := a.tmps, params := ps, assign := asg, body, defers := w.heap.size })) :=
      Step.alloc s1.rel hf1 (fun r' hr' => ⟨fn, a.tmps, w.heap.size, 0, hr' _ _ (set_new _ _ _), hF.size, hF.tmps.mono (Ren.le_trans s1.le hr'), heap_alloc_new _ _⟩) (fun b hb => Below.heap_alloc _ _ _ hb) (by simp) rfl rfl rfl
    have hs := s1.trans s2
    have hb : ((r.set st.n (w.heap.size, 0)).set (st.new .deferred).n ((w.alloc (.deferred (some []))).heap.size, 0)) (st.n + 1) = some (w.heap.size + 1, 0) := by simp [Ren.set, St.new]
    have hFF : FrR ((r.set st.n (w.heap.size, 0)).set (st.new .deferred).n ((w.alloc (.deferred (some []))).heap.size, 0)) { fr with ds := st.n :: fr.ds } { a with defers := [{ target := .collected w.heap.size, args := #[] }] ++ a.defers } :=
      ⟨hF.size, hF.tmps.mono hs.le, .cons (k := 0) (s2.le _ _ (set_new _ _ _)) (hF.defers.mono hs.le)⟩
    obtain ⟨d, w1', f', args, w2, c1, c2, c3, c4, c5⟩ := call _ _ _ _ _ hs hb hFF
    exact ⟨_, _, _, d, w1', f', args, w2, run_enterLoop_outer fn a.tmps ps asg body, c1, c2, c3, c4, c5⟩
  · dsimp only at henter
    split at henter
    case h_2 => cases henter
    rename_i state0 pending0 τ0 N0 ps0 asg0 body0 ar hget0
    cases henter
    obtain ⟨b2, k2, hr2, fn0, tmps0, D, kD, h1, h2, h3, h4⟩ := hR.obj l0 _ hget0
    rw [hr0] at hr2
    cases hr2
    have hf0 : r st.n = none := hf _ (Nat.le_refl _) (by simp [St.new] at hlt; omega)
    have s1 : Step G r st w (r.set st.n (w.heap.size, 0)) (st.new (.loop .ready none fr.τ fr.N ps asg body ar)) (w.alloc (.loop { state := .ready, pending := none, fn, tmps := a.tmps, params := ps, assign := asg, body, defers := D })) :=
      Step.alloc hR hf0 (fun r' hr' => ⟨fn, a.tmps, D, kD, hr' _ _ h1, hF.size, hF.tmps.mono hr', heap_alloc_new _ _⟩) (fun b hb => Below.heap_alloc _ _ _ hb) (by simp) rfl rfl rfl
    obtain ⟨d, w1', f', args, w2, c1, c2, c3, c4, c5⟩ := call _ _ _ _ [] s1 (set_new _ _ _) ⟨hF.size, hF.tmps.mono s1.le, hF.defers.mono s1.le⟩
    exact ⟨_, _, _, d, w1', f', args, w2, run_enterLoop_inner h4 fn a.tmps ps asg body, c1, c2, c3, c4, c5⟩

theorem code_ok {c : Code} {rd : Option Nat} {fr : Fr} {st : St} {res : Res} (hrec : RecOk P G rec) (hN : Kn P G) (hD : DrawOk P G rec) (h : codeP P G rec c rd fr st = some res) : CodeOk P G c rd fr st res := by
  cases c with
  | skip => intro r w a ro m hR hF hrd hf; simp [codeP] at h; subst h; exact wpIn_skip ⟨rfl, r, Step.refl hR, hF⟩
  | label l => intro r w a ro m hR hF hrd hf; simp [codeP] at h; subst h; exact wpIn_label ⟨rfl, r, Step.refl hR, hF⟩
  | ret => intro r w a ro m hR hF hrd hf; simp [codeP] at h; subst h; exact wpIn_ret ⟨rfl, r, Step.refl hR, hF⟩
  | exit id => intro r w a ro m hR hF hrd hf; simp [codeP] at h; subst h; exact wpIn_exit ⟨rfl, r, Step.refl hR, hF⟩
  | goto l => intro r w a ro m hR hF hrd hf; simp [codeP] at h; subst h; exact wpIn_goto ⟨rfl, r, Step.refl hR, hF⟩
  | refuse why => simp [codeP] at h
  | loop b => exact loop_code (loop_ok hrec h)
  | seq x y =>
    intro r w a ro m hR hF hrd hf
    unfold codeP at h
    rw [Option.bind_eq_some_iff] at h; obtain ⟨q, hq, h⟩ := h
    have hA := (hrec _ _ hq).1
    refine wpIn_seq ?_
    split at h
    · rename_i ho
      obtain ⟨h, hmono⟩ := chk_ok h
      refine wpIn_mono (hA r w a ro m hR hF hrd (hf.less hmono)) ?_
      rintro e a1 w1 ⟨rfl, r', hstep, hfr⟩
      rw [ho]
      exact wpIn_mono ((hrec _ _ h).1 r' w1 a1 ro m hstep.rel hfr (hrd.mono hstep.le) (hstep.rest hf)) fun e a' w' hk => CPost.trans hstep hk
    · rename_i ho
      cases h
      refine wpIn_mono (hA r w a ro m hR hF hrd hf) ?_
      rintro e a1 w1 ⟨rfl, r', hstep, hfr⟩
      exact exit_cases _ _ (fun h => absurd h (outE_ne ho)) fun _ => ⟨rfl, r', hstep, hfr⟩
  | cond x c1 c2 =>
    intro r w a ro m hR hF hrd hf
    unfold codeP at h
    rw [Option.bind_eq_some_iff] at h; obtain ⟨v, hv, h⟩ := h
    have hve := eval_ok (a := a) hR hF.tmps x v hv
    split at h
    · have := VR.closed_eq hve rfl
      exact wpIn_cond_true this ((hrec _ _ h).1 r w a ro m hR hF hrd hf)
    · have := VR.closed_eq hve rfl
      exact wpIn_cond_false this ((hrec _ _ h).1 r w a ro m hR hF hrd hf)
    · cases h
  | block id b =>
    intro r w a ro m hR hF hrd hf
    unfold codeP at h
    rw [Option.bind_eq_some_iff] at h; obtain ⟨q, hq, h⟩ := h
    have hA := (hrec _ _ hq).1
    refine wpIn_block ?_
    split at h
    · rename_i i ho
      simp only [cond_eq_ite] at h
      split at h
      · rename_i hi
        have hi := Nat.eq_of_beq_eq_true hi
        cases h
        refine wpIn_mono (hA r w a ro m hR hF hrd hf) ?_
        rintro e a1 w1 ⟨rfl, r', hstep, hfr⟩
        rw [ho]
        simp only [outE, Exit.inBlock, hi, if_true]
        exact ⟨rfl, r', hstep, hfr⟩
      · rename_i hi
        have hi : ¬ i = id := by rintro rfl; exact hi (Nat.beq_refl i)
        cases h
        refine wpIn_mono (hA r w a ro m hR hF hrd hf) ?_
        rintro e a1 w1 ⟨rfl, r', hstep, hfr⟩
        rw [ho]
        simp only [outE, Exit.inBlock, if_neg hi]
        exact ⟨by rw [ho]; rfl, r', hstep, hfr⟩
    · rename_i ho
      cases h
      refine wpIn_mono (hA r w a ro m hR hF hrd hf) ?_
      rintro e a1 w1 ⟨rfl, r', hstep, hfr⟩
      cases hq2 : res.out <;> first | exact absurd hq2 (ho _) | (simp only [outE, Exit.inBlock]; exact ⟨by rw [hq2]; rfl, r', hstep, hfr⟩)
  | region id ops draw =>
    cases draw with
    | false =>
      intro r w a ro m hR hF hrd hf
      unfold codeP at h
      dsimp only at h
      rw [Option.bind_eq_some_iff] at h; obtain ⟨⟨fr1, st1⟩, hq, h⟩ := h
      cases h
      refine wpIn_region_list ?_
      have := ops_ok (ro := ro) (m := m) (all := ops.toList) (Q := CPost G r st w ⟨.normal, undef, fr1, st1⟩) hrec hN hq hR hF hf (fun r' w' a' hs hf' => ⟨rfl, r', hs, hf'⟩)
      simpa using this
    | true =>
      unfold codeP at h
      dsimp only at h
      rw [Option.bind_eq_some_iff] at h; obtain ⟨⟨recs, fr1, st1⟩, hq, h⟩ := h
      cases h
      intro r w a ro m hR hF hrd hf
      exact hD ops fr fr1 st st1 recs hq r w a ro m id hR hF hf
  | scope b =>
    intro r w a ro m hR hF hrd hf bf k cs hro hb hr
    unfold codeP at h
    obtain ⟨e, a1, w1, hq, harr⟩ := hrec _ _ h r w a ro m hR hF hrd hf bf k cs hro hb hr
    exact ⟨e, a1, w1, hq, .of_steps (.one (fenced_calm (fr := bf.atR a (.code (.scope b) :: k)) hb hr rfl) stepR_scope') harr⟩
  | rangeFunc f ps asg body => exact range_ok hrec hN h

theorem step_ok (hrec : RecOk P G rec) (hN : Kn P G) (hD : DrawOk P G rec) : RecOk P G (stepP P G rec) := by
  intro t res h
  cases t with
  | code c rd fr st => exact ⟨code_ok hrec hN hD h, fun b hb => by subst hb; exact loop_ok hrec h⟩
  | inSc all c rd fr st => exact scoped_ok hrec h
  | call f args st =>
    unfold stepP at h
    dsimp only at h
    split at h
    · rename_i hfx
      split at h
      · cases h
        intro r w args' m hR hl hf
        cases hl
        refine CallsIn.mono (show CallsIn (WF none) m P f #[] w _ from callsIn_wide (n := m).2 (hN.yes f hfx w)) ?_
        rintro e w' ⟨rfl, hk⟩
        exact ⟨r, _, rfl, .bool _, hk.step hR⟩
      · cases h
    · exact call_ok hrec h
theorem run_ok (hN : Kn P G) (hD : ∀ rec, RecOk P G rec → DrawOk P G rec) : ∀ n, RecOk P G (run P G n)
  | 0 => fun t res h => by cases h
  | n + 1 => step_ok (run_ok hN hD n) hN (hD _ (run_ok hN hD n))
end Ev
end Go.Proofs.Ytkjdfndbadbkkaa
