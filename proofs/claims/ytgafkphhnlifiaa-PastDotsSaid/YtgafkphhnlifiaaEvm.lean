/- Maps on marks, and what the model makes of them. No program is named here. -/
import Derived.Test.YtgafkphhnlifiaaEv5
namespace Go.Proofs.Ytgafkphhnlifiaa
namespace Ev
set_option linter.unusedVariables false
set_option linter.unusedSimpArgs false
open Go.RowKit
variable {P : Program} {G : Cx} {r : Ren} {st : St} {w : World}

theorem ER.length {l : List (Value × Value × Nat)} {l' : List MapEntry} (h : ER r l l') : l'.length = l.length := by
  induction h with
  | nil => rfl
  | cons _ _ _ ih => simp [ih]
theorem ER.keys {l : List (Value × Value × Nat)} {l' : List MapEntry} (h : ER r l l') : (dumb l).map (·.key) = l'.map (·.key) := by
  induction h with
  | nil => rfl
  | cons _ _ _ ih => simp [dumb, ih]
theorem ER.at_ {l : List (Value × Value × Nat)} {l' : List MapEntry} (h : ER r l l') : ∀ (j : Nat) (e' : MapEntry), l'[j]? = some e' → ∃ e : Value × Value × Nat, l[j]? = some e ∧ closedV e.1 = true ∧ e'.key = e.1 ∧ VR r e.2.1 e'.val ∧ e'.born = e.2.2 := by
  induction h with
  | nil => intro j e' he; simp at he
  | cons hk hv _ ih =>
    intro j e' he
    cases j with
    | zero => simp at he; subst he; exact ⟨_, rfl, hk, rfl, hv, rfl⟩
    | succ j => simpa using ih j e' (by simpa using he)
theorem ER.append {a b : List (Value × Value × Nat)} {a' b' : List MapEntry} (h : ER r a a') (k : ER r b b') : ER r (a ++ b) (a' ++ b') := by
  induction h with
  | nil => exact k
  | cons hk hv _ ih => exact .cons hk hv ih
theorem ER.erase {l : List (Value × Value × Nat)} {l' : List MapEntry} (h : ER r l l') : ∀ j : Nat, ER r (l.eraseIdx j) (l'.eraseIdx j) := by
  induction h with
  | nil => intro j; exact .nil
  | cons hk hv hl ih =>
    intro j
    cases j with
    | zero => exact hl
    | succ j => exact .cons hk hv (ih j)
theorem ER.set {l : List (Value × Value × Nat)} {l' : List MapEntry} (h : ER r l l') {k x x' : Value} (hk : closedV k = true) (hx : VR r x x') : ∀ (j : Nat) (e : Value × Value × Nat) (e' : MapEntry), l[j]? = some e → l'[j]? = some e' → ER r (l.set j (k, x, e.2.2)) (l'.modify j fun e => { e with key := k, val := x' }) := by
  induction h with
  | nil => intro j e e' he; simp at he
  | cons hk0 hv hl ih =>
    intro j e e' he he'
    cases j with
    | zero => simp at he he'; subst he; subst he'; exact .cons hk hx hl
    | succ j => simpa using ER.cons hk0 hv (ih j e e' (by simpa using he) (by simpa using he'))

theorem findNow_ok {d : TypeDesc} {k : Value} : ∀ (l l' : List MapEntry) (i : Nat), l.map (·.key) = l'.map (·.key) →
    (Instr.findNow d k l i = none → Instr.findNow d k l' i = none) ∧ (Instr.findNow d k l i = some none → Instr.findNow d k l' i = some none) ∧
    (∀ j v, Instr.findNow d k l i = some (some (j, v)) → ∃ j0 e', j = i + j0 ∧ l'[j0]? = some e' ∧ Instr.findNow d k l' i = some (some (j, e'.val)))
  | [], [], i, _ => ⟨fun h => h, fun h => h, fun j v h => by simp [Instr.findNow] at h⟩
  | [], _ :: _, _, h => by simp at h
  | _ :: _, [], _, h => by simp at h
  | e :: l, e' :: l', i, h => by
    simp only [List.map_cons, List.cons.injEq] at h
    obtain ⟨h1, h2⟩ := h
    have ih := findNow_ok (d := d) (k := k) l l' (i + 1) h2
    have hs1 : Instr.sameNow d k e'.key = Instr.sameNow d k e.key := by rw [h1]
    cases hs : Instr.sameNow d k e.key with
    | none =>
      rw [hs] at hs1
      refine ⟨fun h => by simp [Instr.findNow, hs1], fun h => ?_, fun j v h => ?_⟩ <;> simp [Instr.findNow, hs] at h
    | some b =>
      rw [hs] at hs1
      cases b with
      | true =>
        refine ⟨fun h => ?_, fun h => ?_, fun j v h => ?_⟩ <;> simp [Instr.findNow, hs] at h
        obtain ⟨rfl, rfl⟩ := h
        exact ⟨0, e', by simp, by simp, by simp [Instr.findNow, hs1]⟩
      | false =>
        have e1 : Instr.findNow d k (e :: l) i = Instr.findNow d k l (i + 1) := by simp [Instr.findNow, hs]
        have e2 : Instr.findNow d k (e' :: l') i = Instr.findNow d k l' (i + 1) := by simp [Instr.findNow, hs1]
        rw [e1, e2]
        refine ⟨ih.1, ih.2.1, fun j v h => ?_⟩
        obtain ⟨j0, e3, h3, h4, h5⟩ := ih.2.2 j v h
        exact ⟨j0 + 1, e3, by omega, by simpa using h4, h5⟩
theorem findAsking_ok {kt : TypeId} {k : Value} : ∀ (l l' : List MapEntry) (i : Nat) (w w1 : World) (x : Option (Nat × Value)), l.map (·.key) = l'.map (·.key) → (Instr.findAsking kt k l i).run P w = .ok x w1 →
    match x with
    | none => (Instr.findAsking kt k l' i).run P w = .ok none w1
    | some (j, v) => ∃ j0 e', j = i + j0 ∧ l'[j0]? = some e' ∧ (Instr.findAsking kt k l' i).run P w = .ok (some (j, e'.val)) w1
  | [], [], i, w, w1, x, _, h => by
    simp [Instr.findAsking] at h
    obtain ⟨rfl, rfl⟩ := h
    simp [Instr.findAsking]
  | [], _ :: _, _, _, _, _, h, _ => by simp at h
  | _ :: _, [], _, _, _, _, h, _ => by simp at h
  | e :: l, e' :: l', i, w, w1, x, h, hr => by
    simp only [List.map_cons, List.cons.injEq] at h
    obtain ⟨h1, h2⟩ := h
    simp only [Instr.findAsking, Sem.run_bind] at hr ⊢
    rw [← h1]
    cases hq : (Op.equal kt k e.key).run P w with
    | halt _ _ => rw [hq] at hr; simp at hr
    | ok b w2 =>
      rw [hq] at hr
      simp only [Result.andThen_ok] at hr
      cases b with
      | true =>
        simp at hr
        obtain ⟨rfl, rfl⟩ := hr
        exact ⟨0, e', by simp, by simp, by simp⟩
      | false =>
        have ih := findAsking_ok l l' (i + 1) w2 w1 x h2 (by simpa using hr)
        cases x with
        | none => simpa using ih
        | some jv =>
          obtain ⟨j, v⟩ := jv
          obtain ⟨j0, e2, h3, h4, h5⟩ := ih
          exact ⟨j0 + 1, e2, by omega, by simpa using h4, by simpa using h5⟩
theorem findKey_ok {kt : TypeId} {d : TypeDesc} {k : Value} {l l' : List MapEntry} {w w1 : World} {x : Option (Nat × Value)} (hd : P.underlying kt = some d) (hk : l.map (·.key) = l'.map (·.key)) (h : (Instr.findKey kt k l).run P w = .ok x w1) :
    match x with
    | none => (Instr.findKey kt k l').run P w = .ok none w1
    | some (j, v) => ∃ e', l'[j]? = some e' ∧ (Instr.findKey kt k l').run P w = .ok (some (j, e'.val)) w1 := by
  simp only [Instr.findKey, Sem.run_bind, run_underlying hd, Result.andThen_ok] at h ⊢
  obtain ⟨f1, f2, f3⟩ := findNow_ok (d := d) (k := k) l l' 0 hk
  cases hq : Instr.findNow d k l 0 with
  | none =>
    rw [hq] at h
    rw [f1 hq]
    have := findAsking_ok l l' 0 w w1 x hk h
    cases x with
    | none => exact this
    | some jv =>
      obtain ⟨j, v⟩ := jv
      obtain ⟨j0, e2, h3, h4, h5⟩ := this
      exact ⟨e2, by rw [h3, Nat.zero_add]; exact h4, h5⟩
  | some y =>
    rw [hq] at h
    simp at h
    obtain ⟨rfl, rfl⟩ := h
    cases y with
    | none => rw [f2 hq]; simp
    | some jv =>
      obtain ⟨j, v⟩ := jv
      obtain ⟨j0, e2, h3, h4, h5⟩ := f3 j v hq
      rw [h5]
      exact ⟨e2, by rw [h3, Nat.zero_add]; exact h4, by simp⟩
theorem find_ok {kt : TypeId} {empty : Bool} {k k' : Value} {es : List (Value × Value × Nat)} {es' : List MapEntry} {x : Option Nat} (hE : ER r es es') (hk : VR r k k') (h : findP P kt empty k es = some x) (w : World) :
    closedV k = true ∧ k' = k ∧ (Instr.checkKey empty 10000 kt k).run P w = .ok () w ∧
      (match x with
       | none => (Instr.findKey kt k es').run P w = .ok none w
       | some j => ∃ e', es'[j]? = some e' ∧ (Instr.findKey kt k es').run P w = .ok (some (j, e'.val)) w) := by
  unfold findP at h
  obtain ⟨hc, h1⟩ := cond_none h
  rw [Option.bind_eq_some_iff] at h1; obtain ⟨d, hd, h1⟩ := h1
  split at h1
  case h_2 => cases h1
  rename_i u hu
  rw [Option.bind_eq_some_iff] at h1; obtain ⟨y, hy, h1⟩ := h1
  have hx : y.map (·.1) = x := Option.some.inj h1
  have hck := pureRun_ok hu w
  have hf := pureRun_ok hy w
  have := findKey_ok hd hE.keys hf
  refine ⟨hc, VR.closed_eq hk hc, hck, ?_⟩
  cases y with
  | none => subst hx; exact this
  | some jv => obtain ⟨j, v⟩ := jv; subst hx; exact this
theorem nilL_ok {es : List (Value × Value × Nat)} {es' : List MapEntry} (h : ER r es es') : nilL es = es'.isEmpty := by cases h <;> rfl
theorem mapDesc_ok {t : TypeId} {k e : TypeId} (h : mapDesc P t = some (k, e)) : P.underlying t = some (.map k e) := by
  unfold mapDesc at h
  rw [Option.bind_eq_some_iff] at h; obtain ⟨d, hd, h⟩ := h
  split at h
  · cases h; exact hd
  · cases h
theorem map_at {i : Nat} {es : List (Value × Value × Nat)} {c : Nat} (hR : Rel G r st w) (h : st.map i = some (es, c)) :
    st.H.get i = some (.map es c) ∧ ∃ b k es', r i = some (b, k) ∧ ER r es es' ∧ w.heap[b]? = some (.map es'.toArray c) := by
  unfold St.map at h
  split at h
  · rename_i hg
    cases h
    obtain ⟨b, k, hr, es', h1, h2⟩ := hR.obj i _ hg
    exact ⟨hg, b, k, es', hr, h1, h2⟩
  · cases h
theorem map_turn {i : Nat} {es es2 : List (Value × Value × Nat)} {c c2 b k : Nat} {es' es2' : List MapEntry} (hR : Rel G r st w) (hg : st.H.get i = some (.map es c)) (hr : r i = some (b, k)) (hb : w.heap[b]? = some (.map es'.toArray c)) (hE : ER r es2 es2') :
    (setObj b (.map es2'.toArray c2)).run P w = .ok () (w.putObj b (.map es2'.toArray c2)) ∧ Step G r st w r (st.upd i (.map es2 c2)) (w.putObj b (.map es2'.toArray c2)) :=
  ⟨setObj_run hb (fun _ _ _ h => by cases h), Step.turn hR hg hr ⟨es2', hE, World.putObj_heap_same (Array.getElem?_eq_some_iff.1 hb).1⟩ (fun c hc => World.putObj_heap_other hc) (by simp) rfl rfl rfl⟩
theorem makeMap_ok {t : TypeId} {x x' : Option Value} {v : Value} {st' : St} (hR : Rel G r st w) (hf : ∀ i, st.n ≤ i → i < st'.n → r i = none) (h : makeMapP P t x st = some (v, st')) (hx : OR r x x') :
    ∃ r' w' v', (Instr.makeMap t x').run P w = .ok v' w' ∧ VR r' v v' ∧ Step G r st w r' st' w' := by
  have fin : (v, st') = (Value.map (some st.n), st.new (.map [] 0)) → ∃ r' w' v', (do pure (.map (some (← newObj (.map #[] 0)))) : Sem Value).run P w = .ok v' w' ∧ VR r' v v' ∧ Step G r st w r' st' w' := by
    intro e
    cases e
    refine ⟨r.set st.n (w.heap.size, 0), w.alloc (.map #[] 0), .map (some w.heap.size), ?_, .map (set_new _ _ _), ?_⟩
    · simp only [Sem.run_bind, Sem.run_pure, newObj, Sem.run, Result.andThen_ok]
      rfl
    · exact Step.alloc hR (hf _ (Nat.le_refl _) (by simp [St.new])) (fun r' hr' => ⟨[], .nil, heap_alloc_new w _⟩) (fun b hb => Below.heap_alloc _ _ _ hb) (by simp) rfl rfl rfl
  unfold makeMapP at h
  split at h
  · cases hx
    obtain ⟨r', w', v', h1, h2⟩ := fin (Option.some.inj h).symm
    exact ⟨r', w', v', by simpa [Instr.makeMap] using h1, h2⟩
  · rw [Option.bind_eq_some_iff] at h; obtain ⟨⟨k, e⟩, hd, h⟩ := h
    have hd := mapDesc_ok hd
    cases hx with
    | some hv =>
    cases hv
    obtain ⟨r', w', v', h1, h2⟩ := fin (Option.some.inj h).symm
    exact ⟨r', w', v', by simpa [Instr.makeMap, run_underlying hd, asInt, asIntOf] using h1, h2⟩
  · cases h
theorem lookup_ok {t : TypeId} {m k m' k' v : Value} {ok : Bool} (hR : Rel G r st w) (h : lookupP P t m k ok st = some v) (hm : VR r m m') (hk : VR r k k') :
    ∃ v', (Instr.lookup t m' k' ok).run P w = .ok v' w ∧ VR r v v' := by
  unfold lookupP at h
  rw [Option.bind_eq_some_iff] at h; obtain ⟨⟨kt, elem⟩, hd, h⟩ := h
  have hd := mapDesc_ok hd
  rw [Option.bind_eq_some_iff] at h; obtain ⟨es, hes, h⟩ := h
  rw [Option.bind_eq_some_iff] at h; obtain ⟨x, hx, h⟩ := h
  rw [Option.bind_eq_some_iff] at h; obtain ⟨⟨u, b⟩, hu, h⟩ := h
  have fin : ∀ (es' : List MapEntry), ER r es es' → (m' = .map none ∧ es' = [] ∨ ∃ b c, m' = .map (some b) ∧ (getObj b).run P w = .ok (.map es'.toArray c) w) → ∃ v', (Instr.lookup t m' k' ok).run P w = .ok v' w ∧ VR r v v' := by
    intro es' hE hm'
    obtain ⟨hc, rfl, hck, hfind⟩ := find_ok hE hk hx w
    rw [nilL_ok hE] at hck
    cases x with
    | none =>
      have hfind : (Instr.findKey kt k' es').run P w = .ok none w := hfind
      rw [Option.bind_eq_some_iff] at hu; obtain ⟨z, hz, hu⟩ := hu
      cases hu
      have hfin : (Instr.lookup t m' k' ok).run P w = .ok (if ok then .tuple #[u, .bool false] else u) w := by
        rcases hm' with ⟨rfl, rfl⟩ | ⟨b, c, rfl, hget⟩
        · have hck : (Instr.checkKey true 10000 kt k').run P w = .ok () w := hck
          simp only [Instr.lookup, Sem.run_bind, run_underlying hd, Result.andThen_ok, Sem.run_pure]
          simp [hck, hfind, run_zeroP hz]
        · simp only [Instr.lookup, Sem.run_bind, run_underlying hd, Result.andThen_ok, hget]
          simp [hck, hfind, run_zeroP hz]
      have hvr := VR.closed (r := r) u (zeroP_info hz).2
      cases ok with
      | true => cases h; exact ⟨_, hfin, .tuple (.cons hvr (.cons (.bool _) .nil))⟩
      | false => cases h; exact ⟨_, hfin, hvr⟩
    | some j =>
      rw [Option.bind_eq_some_iff] at hu; obtain ⟨e, he, hu⟩ := hu
      cases hu
      have hfind : ∃ e', es'[j]? = some e' ∧ (Instr.findKey kt k' es').run P w = .ok (some (j, e'.val)) w := hfind
      obtain ⟨e', he', hfind⟩ := hfind
      obtain ⟨e2, h2, _, _, hvr, _⟩ := hE.at_ j e' he'
      rw [he] at h2
      cases h2
      have hfin : (Instr.lookup t m' k' ok).run P w = .ok (if ok then .tuple #[e'.val, .bool true] else e'.val) w := by
        rcases hm' with ⟨rfl, rfl⟩ | ⟨b, c, rfl, hget⟩
        · simp at he'
        · simp only [Instr.lookup, Sem.run_bind, run_underlying hd, Result.andThen_ok, hget]
          simp [hck, hfind]
      cases ok with
      | true => cases h; exact ⟨_, hfin, .tuple (.cons hvr (.cons (.bool _) .nil))⟩
      | false => cases h; exact ⟨_, hfin, hvr⟩
  unfold entries at hes
  split at hes
  · cases hes
    cases hm
    exact fin [] .nil (.inl ⟨rfl, rfl⟩)
  · rw [Option.bind_eq_some_iff] at hes; obtain ⟨⟨es0, c⟩, hmp, hes⟩ := hes
    cases hes
    obtain ⟨hg, b, kk, es', hr, hE, hb⟩ := map_at hR hmp
    cases hm with
    | map hr2 =>
    rw [hr] at hr2
    cases hr2
    exact fin es' hE (.inr ⟨b, c, rfl, getObj_run (P := P) hb (fun _ _ _ h => by cases h)⟩)
  · cases hes
theorem mapUpdate_ok {t : TypeId} {m k x m' k' x' : Value} {st' : St} (hR : Rel G r st w) (h : mapUpdateP P t m k x st = some st') (hm : VR r m m') (hk : VR r k k') (hx : VR r x x') :
    ∃ w', (Instr.mapUpdate t m' k' x').run P w = .ok () w' ∧ Step G r st w r st' w' := by
  unfold mapUpdateP at h
  split at h
  case h_2 => cases h
  rename_i i
  rw [Option.bind_eq_some_iff] at h; obtain ⟨⟨kt, elem⟩, hd, h⟩ := h
  have hd := mapDesc_ok hd
  rw [Option.bind_eq_some_iff] at h; obtain ⟨⟨es, c⟩, hmp, h⟩ := h
  rw [Option.bind_eq_some_iff] at h; obtain ⟨y, hy, h⟩ := h
  obtain ⟨hg, b, kk, es', hr, hE, hb⟩ := map_at hR hmp
  cases hm with
  | map hr2 =>
  rw [hr] at hr2
  cases hr2
  have hget := getObj_run (P := P) hb (fun _ _ _ h => by cases h)
  obtain ⟨hc, rfl, hck, hfind⟩ := find_ok hE hk hy w
  cases y with
  | none =>
    cases h
    obtain ⟨h1, h2⟩ := map_turn (P := P) (c2 := c + 1) hR hg hr hb (hE.append (.cons hc hx .nil (n := c)))
    refine ⟨_, ?_, h2⟩
    simp only [Instr.mapUpdate, Sem.run_bind, run_underlying hd, Result.andThen_ok, hget, hck, hfind]
    simpa using h1
  | some j =>
    dsimp only at h
    rw [Option.bind_eq_some_iff] at h; obtain ⟨e, he, h⟩ := h
    rw [Option.bind_eq_some_iff] at h; obtain ⟨k2, hk2, h⟩ := h
    cases h
    obtain ⟨e', he', hfind⟩ := hfind
    obtain ⟨e2, hh, _, hkey, hv, hborn⟩ := hE.at_ j e' he'
    rw [he] at hh
    cases hh
    unfold stays at hk2
    rw [Option.bind_eq_some_iff] at hk2; obtain ⟨k3, hk3, hk2⟩ := hk2
    obtain ⟨hcl, hk2⟩ := cond_none hk2
    cases hk2
    have hst := pureRun_ok hk3 w
    obtain ⟨h1, h2⟩ := map_turn (P := P) (c2 := c) hR hg hr hb (hE.set hcl hx j e e' he he')
    refine ⟨_, ?_, h2⟩
    simp only [Instr.mapUpdate, Sem.run_bind, run_underlying hd, Result.andThen_ok, hget, hck, hfind]
    simp only [List.getElem?_toArray, he', Option.map_some, Option.getD_some, hkey, hst, Result.andThen_ok]
    simpa using h1
theorem delete_ok {ts : List TypeId} {ty : TypeId} {m k m' k' v : Value} {st' : St} (hR : Rel G r st w) (h : deleteP P ts m k st = some (v, st')) (hm : VR r m m') (hk : VR r k k') :
    ∃ r' w' v', (Builtin.delete_ ts.toArray ty #[m', k']).run P w = .ok v' w' ∧ VR r' v v' ∧ Step G r st w r' st' w' := by
  unfold deleteP at h
  split at h
  case h_2 => cases h
  rename_i t tl i
  rw [Option.bind_eq_some_iff] at h; obtain ⟨⟨kt, elem⟩, hd, h⟩ := h
  have hd := mapDesc_ok hd
  rw [Option.bind_eq_some_iff] at h; obtain ⟨⟨es, c⟩, hmp, h⟩ := h
  rw [Option.bind_eq_some_iff] at h; obtain ⟨y, hy, h⟩ := h
  obtain ⟨hg, b, kk, es', hr, hE, hb⟩ := map_at hR hmp
  cases hm with
  | map hr2 =>
  rw [hr] at hr2
  cases hr2
  have hget := getObj_run (P := P) hb (fun _ _ _ h => by cases h)
  obtain ⟨hc, rfl, hck, hfind⟩ := find_ok hE hk hy w
  rw [nilL_ok hE] at hck
  cases y with
  | none =>
    have hfind : (Instr.findKey kt k' es').run P w = .ok none w := hfind
    cases h
    obtain ⟨h1, h2⟩ := map_turn (P := P) (c2 := c) hR hg hr hb hE
    refine ⟨r, _, .tuple #[], ?_, .tuple .nil, h2⟩
    simp only [Builtin.delete_, List.getElem?_toArray, List.getElem?_cons_zero, Sem.run_bind, run_underlying hd, Result.andThen_ok, hget]
    simp [run_underlying hd, hget, hck, hfind, h1]
  | some j =>
    cases h
    obtain ⟨e', he', hfind⟩ := hfind
    obtain ⟨h1, h2⟩ := map_turn (P := P) (c2 := c) hR hg hr hb (hE.erase j)
    refine ⟨r, _, .tuple #[], ?_, .tuple .nil, h2⟩
    simp only [Builtin.delete_, List.getElem?_toArray, List.getElem?_cons_zero, Sem.run_bind, run_underlying hd, Result.andThen_ok, hget]
    simp [run_underlying hd, hget, hck, hfind, h1]
theorem ER.filter {l : List (Value × Value × Nat)} {l' : List MapEntry} (h : ER r l l') (p : Nat → Bool) : ER r (l.filter fun e => p e.2.2) (l'.filter fun e => p e.born) := by
  induction h with
  | nil => exact .nil
  | @cons k v v' n l l' hk hv hl ih =>
    simp only [List.filter_cons]
    cases p n with
    | false => exact ih
    | true => exact .cons hk hv ih
theorem ER.all {l : List (Value × Value × Nat)} {l' : List MapEntry} (h : ER r l l') (p : Nat → Bool) : l'.all (fun e => p e.born) = l.all (fun e => p e.2.2) := by
  induction h with
  | nil => rfl
  | cons hk hv hl ih => simp only [List.all_cons, ih]
theorem rangeM_ok {t : TypeId} {x x' v : Value} {st' : St} (hR : Rel G r st w) (hf : ∀ i, st.n ≤ i → i < st'.n → r i = none) (h : rangeMP P t x st = some (v, st')) (hx : VR r x x') :
    ∃ r' w' v', (Instr.range t x').run P w = .ok v' w' ∧ VR r' v v' ∧ Step G r st w r' st' w' := by
  unfold rangeMP at h
  rw [Option.bind_eq_some_iff] at h; obtain ⟨d, hd, h⟩ := h
  split at h
  · cases h
    cases hx
    refine ⟨r.set st.n (w.heap.size, 0), w.alloc (.mapIter none 0 #[] 0), .pointer (some ⟨w.heap.size, 0, none⟩), ?_, .ptr 0 none (set_new _ _ _), ?_⟩
    · simp only [Instr.range, Sem.run_bind, run_underlying hd, Result.andThen_ok, Sem.run_pure, newObj, Sem.run]
      rfl
    · exact Step.alloc hR (hf _ (Nat.le_refl _) (by simp [St.new])) (fun r' hr' => ⟨none, .none, heap_alloc_new w _⟩) (fun b hb => Below.heap_alloc _ _ _ hb) (by simp) rfl rfl rfl
  · rename_i i
    rw [Option.bind_eq_some_iff] at h; obtain ⟨⟨es, c⟩, hmp, h⟩ := h
    cases h
    obtain ⟨hg, b, kk, es', hr, hE, hb⟩ := map_at hR hmp
    cases hx with
    | map hr2 =>
    rw [hr] at hr2
    cases hr2
    have hget := getObj_run (P := P) hb (fun _ _ _ h => by cases h)
    refine ⟨r.set st.n (w.heap.size, 0), w.alloc (.mapIter (some b) c #[] c), .pointer (some ⟨w.heap.size, 0, none⟩), ?_, .ptr 0 none (set_new _ _ _), ?_⟩
    · simp only [Instr.range, Sem.run_bind, run_underlying hd, Result.andThen_ok, Sem.run_pure, newObj, hget]
      simp only [Sem.run]
      rfl
    · exact Step.alloc hR (hf _ (Nat.le_refl _) (by simp [St.new])) (fun r' hr' => ⟨some b, .some (hr' _ _ hr), heap_alloc_new w _⟩) (fun b hb => Below.heap_alloc _ _ _ hb) (by simp) rfl rfl rfl
  · cases h
theorem next_ok {it it' v : Value} {s : Bool} {ty : TypeId} {st' : St} (hR : Rel G r st w) (h : nextP it s st = some (v, st')) (hx : VR r it it') :
    ∃ r' w' v', (Instr.next it' s ty).run P w = .ok v' w' ∧ VR r' v v' ∧ Step G r st w r' st' w' := by
  cases s with
  | true => exact nextS_ok hR h hx
  | false =>
  unfold nextP nextMP at h
  dsimp only at h
  split at h
  case h_2 => cases h
  rename_i i
  rw [Option.bind_eq_some_iff] at h; obtain ⟨o, ho, h⟩ := h
  split at h
  case h_2 => cases h
  rename_i m since seen last
  cases hx with
  | ptr _ _ hr =>
  rename_i b k
  obtain ⟨b2, k2, hr2, m', hm, hob⟩ := hR.obj i _ ho
  rw [hr] at hr2
  cases hr2
  have hget := getObj_run (P := P) hob (fun _ _ _ h => by cases h)
  split at h
  · cases h
    cases hm
    exact ⟨r, w, .tuple #[.bool false], by simp [Instr.next, hget], .tuple (.cons (.bool _) .nil), Step.refl hR⟩
  · rename_i j
    rw [Option.bind_eq_some_iff] at h; obtain ⟨⟨es, clock⟩, hmp, h⟩ := h
    dsimp only at h
    obtain ⟨hg, bm, kk, es', hrm, hE, hb⟩ := map_at hR hmp
    cases hm with
    | some hm2 =>
    rw [hrm] at hm2
    cases hm2
    have hgetm := getObj_run (P := P) hb (fun _ _ _ h => by cases h)
    rw [cond_eq_ite] at h
    split at h
    case isTrue => cases h
    rename_i hguard
    have hguard' : ¬ ((!seen.toArray.isEmpty && !es'.toArray.isEmpty && es'.toArray.all (fun e => decide (e.born ≥ last))) = true) := by
      intro hh
      apply hguard
      have e1 : seen.toArray.isEmpty = nilL seen := by cases seen <;> simp [nilL]
      have e2 : es'.toArray.isEmpty = nilL es := by
        have := hE.length
        cases es <;> cases es' <;> simp [nilL] at this ⊢
      have e3 : es'.toArray.all (fun e => decide (e.born ≥ last)) = es.all (fun e => Nat.ble last e.2.2) := by
        rw [List.all_toArray, ← hE.all (fun n => Nat.ble last n)]
        congr 1
        funext e
        by_cases hq : last ≤ e.born
        · rw [Nat.ble_eq_true_of_le hq, decide_eq_true hq]
        · rw [decide_eq_false hq]
          cases hbq : Nat.ble last e.born with
          | false => rfl
          | true => exact absurd (Nat.le_of_ble_eq_true hbq) hq
      rw [e1, e2, e3, Bool.and_assoc] at hh
      exact hh
    have hF := hE.filter (fun n => !(seen.contains n))
    have hleft : es'.toArray.filter (fun e => !(seen.toArray.contains e.born)) = (es'.filter (fun e => !(seen.contains e.born))).toArray := by
      simp
    generalize hl : es.filter (fun e => !(seen.contains e.2.2)) = left at h hF
    generalize hl' : es'.filter (fun e => !(seen.contains e.born)) = left' at hF hleft
    split at h
    · cases h
      cases hF
      refine ⟨r, w, .tuple #[.bool false], ?_, .tuple (.cons (.bool _) .nil), Step.refl hR⟩
      unfold Instr.next
      simp only [Sem.run_bind, hget, hgetm, Result.andThen_ok, if_neg hguard', hleft]
      simp [choose, Sem.run, Question.forced]
    · rename_i e
      obtain ⟨hlt, h⟩ := cond_none h
      cases h
      have hlt := blt_lt hlt
      cases hF with
      | @cons k0 v0 v0' n0 l l' hk hv hl0 =>
      cases hl0
      dsimp only at hlt
      have hnl : ¬ since ≤ n0 := by omega
      have hset := setObj_run (P := P) (o' := .mapIter (some bm) since (seen ++ [n0]).toArray clock) hob (fun _ _ _ h => by cases h)
      refine ⟨r, w.putObj b (.mapIter (some bm) since (seen ++ [n0]).toArray clock), .tuple #[.bool true, k0, v0'], ?_, .tuple (.cons (.bool _) (.cons (VR.closed _ hk) (.cons hv .nil))),
        Step.turn hR ho hr ⟨some bm, .some hrm, ?_⟩ (fun c hc => World.putObj_heap_other hc) (by simp) rfl rfl rfl⟩
      · unfold Instr.next
        simp only [Sem.run_bind, hget, hgetm, Result.andThen_ok, if_neg hguard', hleft]
        simp [choose, Sem.run, Question.forced, hlt, hnl, hset]
      · rw [World.putObj_heap_same (Array.getElem?_eq_some_iff.1 hob).1]
    · cases h
theorem choose_map (w : World) (n : Nat) (hn : 0 < n) : ∃ i d, i < n ∧ (choose (.mapNext n)).run P w = .ok i { w with drawn := d } := by
  by_cases h : n ≤ 1
  · exact ⟨0, w.drawn, hn, by simp [choose, Sem.run, Question.forced, h]⟩
  · exact ⟨_, w.drawn + 1, Nat.mod_lt (w.tape w.drawn (.mapNext n)) hn, by simp [choose, Sem.run, Question.forced, h, Question.cut]⟩
theorem ER.born {l : List (Value × Value × Nat)} {l' : List MapEntry} (h : ER r l l') {c : Nat} (ha : l.all (fun e => Nat.blt e.2.2 c) = true) : ∀ e ∈ l', e.born < c := by
  intro e he
  have h1 := h.all (fun n => Nat.blt n c)
  rw [ha] at h1
  exact blt_lt (List.all_eq_true.1 h1 e he)
theorem nextN_ok {it it' : Value} {ty : TypeId} {L : List (Value × St)} (hR : Rel G r st w) (h : nextMN it st = some L) (hx : VR r it it') :
    ∃ x ∈ L, ∃ r' w' v', (Instr.next it' false ty).run P w = .ok v' w' ∧ VR r' x.1 v' ∧ Step G r st w r' x.2 w' := by
  unfold nextMN at h
  split at h
  case h_2 => cases h
  rename_i i
  rw [Option.bind_eq_some_iff] at h; obtain ⟨o, ho, h⟩ := h
  split at h
  case h_2 => cases h
  rename_i m since seen last
  cases hx with
  | ptr _ _ hr =>
  rename_i b k
  obtain ⟨b2, k2, hr2, m', hm, hob⟩ := hR.obj i _ ho
  rw [hr] at hr2
  cases hr2
  have hget := getObj_run (P := P) hob (fun _ _ _ h => by cases h)
  split at h
  · cases h
    cases hm
    exact ⟨_, List.mem_singleton.2 rfl, r, w, .tuple #[.bool false], by simp [Instr.next, hget], .tuple (.cons (.bool _) .nil), Step.refl hR⟩
  · rename_i j
    rw [Option.bind_eq_some_iff] at h; obtain ⟨⟨es, clock⟩, hmp, h⟩ := h
    dsimp only at h
    obtain ⟨hg, bm, kk, es', hrm, hE, hb⟩ := map_at hR hmp
    cases hm with
    | some hm2 =>
    rw [hrm] at hm2
    cases hm2
    have hgetm := getObj_run (P := P) hb (fun _ _ _ h => by cases h)
    rw [cond_eq_ite] at h
    split at h
    case isTrue => cases h
    rename_i hguard
    have hguard' : ¬ ((!seen.toArray.isEmpty && !es'.toArray.isEmpty && es'.toArray.all (fun e => decide (e.born ≥ last))) = true) := by
      intro hh
      apply hguard
      have e1 : seen.toArray.isEmpty = nilL seen := by cases seen <;> simp [nilL]
      have e2 : es'.toArray.isEmpty = nilL es := by
        have := hE.length
        cases es <;> cases es' <;> simp [nilL] at this ⊢
      have e3 : es'.toArray.all (fun e => decide (e.born ≥ last)) = es.all (fun e => Nat.ble last e.2.2) := by
        rw [List.all_toArray, ← hE.all (fun n => Nat.ble last n)]
        congr 1
        funext e
        by_cases hq : last ≤ e.born
        · rw [Nat.ble_eq_true_of_le hq, decide_eq_true hq]
        · rw [decide_eq_false hq]
          cases hbq : Nat.ble last e.born with
          | false => rfl
          | true => exact absurd (Nat.le_of_ble_eq_true hbq) hq
      rw [e1, e2, e3, Bool.and_assoc] at hh
      exact hh
    have hF := hE.filter (fun n => !(seen.contains n))
    have hleft : es'.toArray.filter (fun e => !(seen.toArray.contains e.born)) = (es'.filter (fun e => !(seen.contains e.born))).toArray := by
      simp
    generalize hl : es.filter (fun e => !(seen.contains e.2.2)) = left at h hF
    generalize hl' : es'.filter (fun e => !(seen.contains e.born)) = left' at hF hleft
    cases left with
    | nil =>
      cases h
      cases hF
      refine ⟨_, List.mem_singleton.2 rfl, r, w, .tuple #[.bool false], ?_, .tuple (.cons (.bool _) .nil), Step.refl hR⟩
      unfold Instr.next
      simp only [Sem.run_bind, hget, hgetm, Result.andThen_ok, if_neg hguard', hleft]
      simp [choose, Sem.run, Question.forced]
    | cons e0 rest =>
      obtain ⟨hall, h⟩ := cond_none h
      cases h
      have hlen := hF.length
      have hborn := hF.born hall
      have hpos : 0 < left'.length := by rw [hlen]; simp
      have hold : left'.toArray.filter (fun e => decide (e.born < since)) = left'.toArray := by
        rw [Array.filter_eq_self]
        intro e he
        exact decide_eq_true (hborn e (by simpa using he))
      have hnew : left'.toArray.filter (fun e => decide (e.born ≥ since)) = #[] := by
        rw [Array.filter_eq_empty_iff]
        intro e he hh
        have h1 := hborn e (by simpa using he)
        have h2 := of_decide_eq_true hh
        omega
      have hne : left'.toArray.isEmpty = false := by cases left' <;> simp at hpos ⊢
      obtain ⟨q, d, hq, hch⟩ := choose_map (P := P) w left'.length hpos
      obtain ⟨e1, he1, hk1, hk2, hv1, hb1⟩ := hF.at_ q _ (List.getElem?_eq_getElem hq)
      have hset := setObj_run (P := P) (w := { w with drawn := d }) (o' := .mapIter (some bm) since (seen ++ [e1.2.2]).toArray clock) hob (fun _ _ _ h => by cases h)
      refine ⟨_, List.mem_map.2 ⟨e1, List.mem_of_getElem? he1, rfl⟩, r, ({ w with drawn := d } : World).putObj b (.mapIter (some bm) since (seen ++ [e1.2.2]).toArray clock), .tuple #[.bool true, e1.1, left'[q].val], ?_, .tuple (.cons (.bool _) (.cons (VR.closed _ hk1) (.cons hv1 .nil))),
        (Step.drawn (n := d) hR).trans (Step.turn hR.drawn ho hr ⟨some bm, .some hrm, ?_⟩ (fun c hc => World.putObj_heap_other hc) (by simp) rfl rfl rfl)⟩
      · unfold Instr.next
        simp only [Sem.run_bind, hget, hgetm, Result.andThen_ok, if_neg hguard', hleft, hold, hnew]
        have hcs : ((if left'.toArray.isEmpty = true then #[none] else #[]) ++ Array.map some (left'.toArray ++ #[])) = (left'.map some).toArray := by simp [hne]
        rw [hcs]
        simp only [List.size_toArray, List.length_map, hch, Result.andThen_ok]
        have hat : (left'.map some).toArray[q]? = some (some left'[q]) := by simp [hq]
        rw [hat]
        simp only [Sem.run_bind]
        rw [show seen.toArray.push left'[q].born = (seen ++ [e1.2.2]).toArray by rw [hb1]; simp, hset, hk2]
        simp
      · exact World.putObj_heap_same (w := { w with drawn := d }) (Array.getElem?_eq_some_iff.1 hob).1
theorem ER.find {l : List (Value × Value × Nat)} {l' : List MapEntry} (h : ER r l l') (p : Nat → Bool) {e : Value × Value × Nat} (hf : l.find? (fun e => p e.2.2) = some e) :
    ∃ e' : MapEntry, l'.find? (fun e => p e.born) = some e' ∧ closedV e.1 = true ∧ e'.key = e.1 ∧ VR r e.2.1 e'.val := by
  induction h with
  | nil => cases hf
  | @cons k v v' n l l' hk hv hl ih =>
    simp only [List.find?_cons] at hf ⊢
    cases hp : p n with
    | true =>
      rw [hp] at hf
      cases hf
      exact ⟨_, rfl, hk, rfl, hv⟩
    | false =>
      rw [hp] at hf
      exact ih hf
theorem entry_ok {it it' v : Value} (hR : Rel G r st w) (h : entryP it st = some v) (hx : VR r it it') :
    ∃ v', (Instr.entry it').run P w = .ok v' w ∧ VR r v v' := by
  unfold entryP at h
  split at h
  case h_2 => cases h
  rename_i i
  rw [Option.bind_eq_some_iff] at h; obtain ⟨o, ho, h⟩ := h
  split at h
  case h_2 => cases h
  rename_i j since seen last
  rw [Option.bind_eq_some_iff] at h; obtain ⟨stamp, hst, h⟩ := h
  rw [Option.bind_eq_some_iff] at h; obtain ⟨⟨es, clock⟩, hmp, h⟩ := h
  dsimp only at h
  obtain ⟨hcl, h2⟩ := cond_none h
  have hcl := Nat.eq_of_beq_eq_true hcl
  subst hcl
  rw [Option.bind_eq_some_iff] at h2; obtain ⟨e, he, h2⟩ := h2
  cases h2
  cases hx with
  | ptr _ _ hr =>
  rename_i b k
  obtain ⟨b2, k2, hr2, m', hm, hob⟩ := hR.obj i _ ho
  rw [hr] at hr2
  cases hr2
  have hget := getObj_run (P := P) hob (fun _ _ _ h => by cases h)
  obtain ⟨hg, bm, kk, es', hrm, hE, hb⟩ := map_at hR hmp
  cases hm with
  | some hm2 =>
  rw [hrm] at hm2
  cases hm2
  have hgetm := getObj_run (P := P) hb (fun _ _ _ h => by cases h)
  obtain ⟨e', hf, hk, hk2, hv⟩ := hE.find (fun n => Nat.beq n stamp) he
  have hback : seen.toArray.back? = some stamp := by simpa using hst
  have hfind : es'.toArray.find? (fun e => e.born == stamp) = some e' := by
    rw [List.find?_toArray, ← hf]
    congr 1
    funext e
    rw [beq_dec]
    by_cases hq : e.born = stamp <;> simp [hq]
  refine ⟨.tuple #[e'.key, e'.val], ?_, .tuple (.cons (by rw [hk2]; exact VR.closed _ hk) (.cons hv .nil))⟩
  unfold Instr.entry
  simp [hget, hgetm, hback, hfind]
end Ev
end Go.Proofs.Ytgafkphhnlifiaa
