/- Regions that draw their order: what any order of them comes to. No program is named here. The run on marks, with all that is the same at each visit reckoned once (the kernel remembers what a closed box holds). No program is named here. A closed call: what the run on marks says is what the program does, in whatever world. No program is named here. -/
import Derived.Test.YtcnbgdplkobenaaGreatDoorZin
import Derived.Test.YtcnbgdplkobenaaGreatDoorZik
import Derived.Laws.Strings
import Derived.Test.YtcnbgdplkobenaaGreatDoorZia
namespace Go.Proofs.YtcnbgdplkobenaaGreatDoor
section
namespace Ev
set_option linter.unusedVariables false
set_option linter.unusedSimpArgs false
open Go.RowKit

/-- What stands where, by the last one done that touches it. -/
def gD {α : Type} (g0 : Nat → Option α) : List ((Nat → Bool) × (Nat → Option α)) → (Nat → Bool) → Nat → Option α
  | [], _, x => g0 x
  | p :: L, D, x => if D L.length && p.1 x then p.2 x else gD g0 L D x
section
variable {α : Type} {g0 : Nat → Option α}
abbrev GL (α : Type) := List ((Nat → Bool) × (Nat → Option α))
def top : Nat → Bool := fun _ => true
theorem gD_skip : ∀ {pre S : GL α} {D : Nat → Bool} {x : Nat}, (∀ p1 q p2, pre = p1 ++ q :: p2 → D (p2.length + S.length) = true → q.1 x = false) → gD g0 (pre ++ S) D x = gD g0 S D x
  | [], _, _, _, _ => rfl
  | q :: pre, S, D, x, h => by
    have h1 := h [] q pre rfl
    have ih := gD_skip (pre := pre) (S := S) (D := D) (x := x) fun p1 q' p2 e => h (q :: p1) q' p2 (by rw [e]; rfl)
    show (if D (pre ++ S).length && q.1 x then q.2 x else gD g0 (pre ++ S) D x) = _
    rw [List.length_append]
    cases hD : D (pre.length + S.length) with
    | false => simpa using ih
    | true => rw [h1 hD]; simpa using ih
theorem gD_top : ∀ {S : GL α} {D : Nat → Bool} {x : Nat}, (∀ p1 q p2, S = p1 ++ q :: p2 → D p2.length = false → q.1 x = false) → gD g0 S D x = gD g0 S top x
  | [], _, _, _ => rfl
  | q :: S, D, x, h => by
    have h1 := h [] q S rfl
    have ih := gD_top (S := S) (D := D) (x := x) fun p1 q' p2 e => h (q :: p1) q' p2 (by rw [e]; rfl)
    show (if D S.length && q.1 x then q.2 x else gD g0 S D x) = (if top S.length && q.1 x then q.2 x else gD g0 S top x)
    cases hD : D S.length with
    | false => rw [h1 hD]; simpa using ih
    | true => simp only [top, Bool.true_and, ih]
theorem gD_more : ∀ {S : GL α} {D D' : Nat → Bool} {j x : Nat}, (∀ i, i ≠ j → D' i = D i) → (∀ p1 q p2, S = p1 ++ q :: p2 → p2.length = j → q.1 x = false) → gD g0 S D' x = gD g0 S D x
  | [], _, _, _, _, _, _ => rfl
  | q :: S, D, D', j, x, hD, h => by
    have h1 := h [] q S rfl
    have ih := gD_more (S := S) hD fun p1 q' p2 e => h (q :: p1) q' p2 (by rw [e]; rfl)
    show (if D' S.length && q.1 x then q.2 x else gD g0 S D' x) = (if D S.length && q.1 x then q.2 x else gD g0 S D x)
    by_cases e : S.length = j
    · rw [h1 e]; simpa using ih
    · rw [hD _ e, ih]
theorem gD_head {q : (Nat → Bool) × (Nat → Option α)} {S : GL α} {D : Nat → Bool} {x : Nat} (hD : D S.length = true) (hq : q.1 x = true) : gD g0 (q :: S) D x = q.2 x := by
  show (if D S.length && q.1 x then q.2 x else gD g0 S D x) = _
  rw [hD, hq]; rfl
theorem gD_pass {q : (Nat → Bool) × (Nat → Option α)} {S : GL α} {D : Nat → Bool} {x : Nat} (hq : q.1 x = false ∨ D S.length = false) : gD g0 (q :: S) D x = gD g0 S D x := by
  show (if D S.length && q.1 x then q.2 x else gD g0 S D x) = _
  rcases hq with h | h <;> rw [h] <;> simp
/-- What stands there came from the beginning, or from one that touches it. -/
theorem gD_from : ∀ {S : GL α} {D : Nat → Bool} {x : Nat} {y : α}, gD g0 S D x = some y → g0 x = some y ∨ ∃ p1 q p2, S = p1 ++ q :: p2 ∧ D p2.length = true ∧ q.1 x = true
  | [], _, _, _, h => .inl h
  | q :: S, D, x, y, h => by
    change (if D S.length && q.1 x then q.2 x else gD g0 S D x) = some y at h
    split at h
    · rename_i hc
      simp only [Bool.and_eq_true] at hc
      exact .inr ⟨[], q, S, rfl, hc.1, hc.2⟩
    · rcases gD_from h with h1 | ⟨p1, q', p2, e, h1, h2⟩
      · exact .inl h1
      · exact .inr ⟨q :: p1, q', p2, by rw [e]; rfl, h1, h2⟩
end

def hL (recs : List Rc) : GL SObj := recs.map fun R => (R.touch, R.H.get)
def tL (recs : List Rc) : GL Value := recs.map fun R => (R.writes, fun _ => some R.v)
theorem map_split {β γ : Type} {f : β → γ} : ∀ {l : List β} {p1 : List γ} {q : γ} {p2 : List γ}, l.map f = p1 ++ q :: p2 → ∃ l1 x l2, l = l1 ++ x :: l2 ∧ p1 = l1.map f ∧ q = f x ∧ p2 = l2.map f := by
  intro l p1 q p2 h
  obtain ⟨l1, l', rfl, h1, h2⟩ := List.map_eq_append_iff.1 h
  obtain ⟨x, l2, rfl, h3, h4⟩ := List.map_eq_cons_iff.1 h2
  exact ⟨l1, x, l2, rfl, h1.symm, h3.symm, h4.symm⟩

theorem touch_iff {R : Rc} {x : Nat} : R.touch x = true ↔ x ∈ R.W ∨ (R.lo ≤ x ∧ x < R.hi) := by
  simp [Rc.touch, inR, Nat.blt_eq]
theorem touch_no {R : Rc} {x : Nat} (h1 : x ∉ R.W) (h2 : ¬ (R.lo ≤ x ∧ x < R.hi)) : R.touch x = false := by
  cases h : R.touch x with
  | false => rfl
  | true => rcases touch_iff.1 h with h | h <;> contradiction
theorem writes_iff {R : Rc} {t : Nat} : R.writes t = true ↔ R.dst = some t := by
  unfold Rc.writes
  cases R.dst with
  | none => simp
  | some d =>
    simp only [Option.some.injEq]
    exact ⟨fun h => Nat.eq_of_beq_eq_true h, fun h => by rw [h]; exact Nat.beq_refl t⟩

/-- Neither comes ahead: R behind Q in the text. -/
structure PairP (R Q : Rc) : Prop where
  w : ∀ x ∈ R.W, x ∉ Q.W
  wr : ∀ x ∈ R.W, ¬ (Q.lo ≤ x ∧ x < Q.hi)
  need : ∀ l, R.need = some l → ∀ x ∈ l, x ∉ Q.W ∧ ¬ (Q.lo ≤ x ∧ x < Q.hi)
  calls : R.need = none → Q.W = []
  need' : ∀ l, Q.need = some l → ∀ x ∈ l, x ∉ R.W ∧ ¬ (R.lo ≤ x ∧ x < R.hi)
  calls' : Q.need = none → R.W = []
  reads : ∀ t ∈ R.reads, Q.writes t = false
  reads' : ∀ t ∈ Q.reads, R.writes t = false
  dst : ∀ d, R.dst = some d → Q.writes d = false
theorem disj_iff {a b : List Nat} : disj a b = true ↔ ∀ x ∈ a, x ∉ b := by simp [disj]
theorem inR_t {lo hi x : Nat} : inR lo hi x = true ↔ lo ≤ x ∧ x < hi := by simp [inR, Nat.blt_eq]
theorem inR_f {lo hi x : Nat} : inR lo hi x = false ↔ ¬ (lo ≤ x ∧ x < hi) := by rw [← inR_t]; cases inR lo hi x <;> simp
theorem pairOk_iff {R Q : Rc} (h : pairOk R Q = true) : PairP R Q := by
  unfold pairOk at h
  simp only [Bool.and_eq_true, disj_iff, List.all_eq_true, Bool.not_eq_true', inR_f] at h
  obtain ⟨⟨⟨⟨⟨⟨h1, h2⟩, h3⟩, h4⟩, h5⟩, h6⟩, h7⟩ := h
  refine ⟨h1, h2, fun l hl x hx => ?_, fun hn => ?_, fun l hl x hx => ?_, fun hn => ?_, h5, h6, fun d hd => ?_⟩
  · rw [hl] at h3
    simp only [Bool.and_eq_true, disj_iff, List.all_eq_true, Bool.not_eq_true', inR_f] at h3
    exact ⟨h3.1 x hx, h3.2 x hx⟩
  · rw [hn] at h3; simpa using h3
  · rw [hl] at h4
    simp only [Bool.and_eq_true, disj_iff, List.all_eq_true, Bool.not_eq_true', inR_f] at h4
    exact ⟨h4.1 x hx, h4.2 x hx⟩
  · rw [hn] at h4; simpa using h4
  · rw [hd] at h7; simpa using h7
theorem allPairs_at : ∀ {recs p1 p2 : List Rc} {R Q : Rc}, allPairs R recs = true → recs = p1 ++ Q :: p2 → R.bef.testBit p2.length = true ∨ PairP R Q
  | _, [], p2, R, Q, h, e => by
    subst e
    simp only [List.nil_append, allPairs, Bool.and_eq_true, Bool.or_eq_true] at h
    exact h.1.imp id pairOk_iff
  | _, q :: p1, p2, R, Q, h, e => by
    subst e
    simp only [List.cons_append, allPairs, Bool.and_eq_true] at h
    exact allPairs_at h.2 rfl
theorem bef_bit : ∀ {recs : List Rc} {j : Nat} {es : List Edge} {s : Nat}, befOf recs j es = some s → ∀ k, s.testBit k = true → ∃ e ∈ es, Region.binds .any e = true ∧ e.on < j ∧ (k = e.on ∨ ∃ R, recs[j - 1 - e.on]? = some R ∧ R.bef.testBit k = true)
  | recs, j, [], s, h, k, hk => by simp [befOf] at h; subst h; simp at hk
  | recs, j, e :: es, s, h, k, hk => by
    unfold befOf at h
    rw [Option.bind_eq_some_iff] at h; obtain ⟨s1, hs1, h⟩ := h
    simp only [cond_eq_ite] at h
    split at h
    · rename_i hb
      split at h
      · rename_i hlt
        rw [Option.bind_eq_some_iff] at h; obtain ⟨R, hR, h⟩ := h
        cases h
        have hlt := blt_lt hlt
        rw [Nat.testBit_or, Nat.testBit_or, Bool.or_eq_true, Bool.or_eq_true] at hk
        rcases hk with (hk | hk) | hk
        · obtain ⟨e', he, h1⟩ := bef_bit hs1 k hk
          exact ⟨e', by simp [he], h1⟩
        · rw [Nat.testBit_two_pow] at hk
          have h2 : e.on = k := by simpa using hk
          exact ⟨e, by simp, hb, hlt, .inl h2.symm⟩
        · exact ⟨e, by simp, hb, hlt, .inr ⟨R, hR, hk⟩⟩
      · cases h
    · cases h
      obtain ⟨e', he, h1⟩ := bef_bit hs1 k hk
      exact ⟨e', by simp [he], h1⟩
theorem bef_lt : ∀ {recs : List Rc} {j : Nat} {es : List Edge} {s : Nat}, befOf recs j es = some s → ∀ e ∈ es, Region.binds .any e = true → e.on < j ∧ s.testBit e.on = true
  | recs, j, [], s, h, e, he, _ => by simp at he
  | recs, j, e0 :: es, s, h, e, he, hb => by
    unfold befOf at h
    rw [Option.bind_eq_some_iff] at h; obtain ⟨s1, hs1, h⟩ := h
    simp only [cond_eq_ite] at h
    split at h
    · split at h
      · rename_i hlt
        rw [Option.bind_eq_some_iff] at h; obtain ⟨R, hR, h⟩ := h
        cases h
        rcases List.mem_cons.1 he with rfl | he
        · exact ⟨blt_lt hlt, by simp [Nat.testBit_or, Nat.testBit_two_pow]⟩
        · have := bef_lt hs1 e he hb
          exact ⟨this.1, by simp [Nat.testBit_or, this.2]⟩
      · cases h
    · rename_i hnb
      cases h
      rcases List.mem_cons.1 he with rfl | he
      · exact absurd hb hnb
      · exact bef_lt hs1 e he hb
theorem rangeL_mem : ∀ {n lo x : Nat}, x ∈ rangeL lo n ↔ lo ≤ x ∧ x < lo + n
  | 0, lo, x => by simp [rangeL]
  | n + 1, lo, x => by
    simp only [rangeL, List.mem_cons, rangeL_mem (n := n)]
    omega
theorem strange_at : ∀ {recs p1 p2 : List Rc} {Q : Rc} {bef x : Nat}, recs = p1 ++ Q :: p2 → bef.testBit p2.length = false → Q.lo ≤ x → x < Q.hi → x ∈ strange bef recs
  | _, [], p2, Q, bef, x, e, hb, h1, h2 => by
    subst e
    simp only [List.nil_append, strange, cond_eq_ite, hb]
    simp only [Bool.false_eq_true, if_false, List.mem_append, rangeL_mem]
    left; omega
  | _, q :: p1, p2, Q, bef, x, e, hb, h1, h2 => by
    subst e
    have ih := strange_at (recs := p1 ++ Q :: p2) rfl hb h1 h2
    simp only [List.cons_append, strange, cond_eq_ite]
    split
    · exact ih
    · exact List.mem_append_right _ ih
theorem strip_get : ∀ {l : List Nat} {H : Tr SObj} {x : Nat} {o : SObj}, (stripH H l).get x = some o → H.get x = some o ∧ x ∉ l
  | [], H, x, o, h => ⟨h, by simp⟩
  | i :: l, H, x, o, h => by
    simp only [stripH, Tr.get_put] at h
    split at h
    · cases h
    · rename_i hne
      obtain ⟨h1, h2⟩ := strip_get h
      exact ⟨h1, by simp [hne, h2]⟩
theorem restrict_get : ∀ {l : List Nat} {H : Tr SObj} {x : Nat} {o : SObj}, (restrictH H l).get x = some o → H.get x = some o ∧ x ∈ l
  | [], H, x, o, h => by simp [restrictH, Tr.get_nil] at h
  | i :: l, H, x, o, h => by
    unfold restrictH at h
    split at h
    · rename_i o' ho
      rw [Tr.get_put] at h
      split at h
      · rename_i e
        cases h
        exact ⟨by rw [e]; exact ho, by simp [e]⟩
      · obtain ⟨h1, h2⟩ := restrict_get h
        exact ⟨h1, by simp [h2]⟩
    · obtain ⟨h1, h2⟩ := restrict_get h
      exact ⟨h1, by simp [h2]⟩
theorem apply_get : ∀ {l : List Nat} {H H' : Tr SObj} {x : Nat}, (applyH H H' l).get x = if x ∈ l then H'.get x else H.get x
  | [], H, H', x => by simp [applyH]
  | i :: l, H, H', x => by
    simp only [applyH, Tr.get_put, apply_get (l := l)]
    by_cases e : x = i
    · subst e; simp
    · simp [e]
theorem restrictT_get : ∀ {l : List Tmp} {τ : Tr Value} {t : Nat}, (restrictT τ l).get t = if t ∈ l then some ((τ.get t).getD undef) else none
  | [], τ, t => by simp [restrictT, Tr.get_nil]
  | i :: l, τ, t => by
    simp only [restrictT, Tr.get_put, restrictT_get (l := l)]
    by_cases e : t = i
    · subst e; simp
    · simp [e]

section
variable (P : Program) (G : Cx) (rec : Task → Option (List Res)) (all : List Oper) (st0 : St) (fr0 : Fr)
def nOf : List Rc → Nat
  | [] => st0.n
  | R :: _ => R.hi
def hRun (recs : List Rc) : Nat → Option SObj := gD st0.H.get (hL recs) top
def tRun (recs : List Rc) : Nat → Option Value := gD fr0.τ.get (tL recs) top
structure OneOk (o : Oper) (R : Rc) (rest : List Rc) : Prop where
  dst : R.dst = o.dst
  reads : R.reads = readsOf all o
  bef : befOf rest rest.length o.after.toList = some R.bef
  pairs : allPairs R rest = true
  lo : R.lo = nOf st0 rest
  le : R.lo ≤ R.hi
  old : ∀ x ∈ R.W, x < R.lo
  fits : ∀ d, R.dst = some d → d < fr0.N
  did : ∃ τ : Tr Value, (∀ t, (τ.get t).getD undef = (tRun fr0 rest t).getD undef) ∧
    ((wantedP all (restrictT τ R.reads) o = false ∧ R.v = undef ∧ R.hi = R.lo ∧ R.W = [] ∧ R.H = .nil) ∨
     (wantedP all (restrictT τ R.reads) o = true ∧ ∃ (H : Tr SObj) (st' : St), opP P G rec (restrictT τ R.reads) o { H, n := R.lo, W := [] } = some [(R.v, st')] ∧ R.hi = st'.n ∧ R.H = st'.H ∧
       (∀ x ∈ st'.W, x < st'.n) ∧ (∀ x, x ∈ R.W ↔ x ∈ st'.W ∧ x < R.lo) ∧
       (∀ x ob, H.get x = some ob → hRun st0 rest x = some ob ∧ (∀ l, R.need = some l → x ∈ l) ∧ (R.need = none → x ∉ strange R.bef rest))))
def GoodR : List Rc → Prop
  | [] => True
  | R :: rest => GoodR rest ∧ ∃ o, all[rest.length]? = some o ∧ OneOk P G rec all st0 fr0 o R rest
end
variable {P : Program} {G : Cx} {rec : Task → Option (List Res)} {all : List Oper} {st0 : St} {fr0 : Fr}

theorem GoodR.at_ : ∀ {p1 rest : List Rc} {R : Rc}, GoodR P G rec all st0 fr0 (p1 ++ R :: rest) → GoodR P G rec all st0 fr0 (R :: rest)
  | [], _, _, h => h
  | _ :: p1, _, _, h => GoodR.at_ (p1 := p1) h.1
/-- The state between. -/
structure Mid (recs : List Rc) (fr : Fr) (st : St) : Prop where
  good : GoodR P G rec all st0 fr0 recs
  n : st.n = nOf st0 recs
  h : ∀ x, st.H.get x = hRun st0 recs x
  t : ∀ t, (fr.τ.get t).getD undef = (tRun fr0 recs t).getD undef
  N : fr.N = fr0.N
  ds : fr.ds = fr0.ds
  w0 : ∀ x ∈ st0.W, x ∈ st.W
  w : ∀ R ∈ recs, ∀ x ∈ R.W, x ∈ st.W
  wf : ∀ x ∈ st.W, x ∈ st0.W ∨ (∃ R ∈ recs, x ∈ R.W) ∨ st0.n ≤ x
  le : st0.n ≤ nOf st0 recs
theorem mid_one {recs : List Rc} {fr fr' : Fr} {st st' : St} {R : Rc} {o : Oper} (hM : Mid (P := P) (G := G) (rec := rec) (all := all) (st0 := st0) (fr0 := fr0) recs fr st) (ho : all[recs.length]? = some o)
    (h : drawOne P G rec all recs o fr st = some (R, fr', st')) : Mid (P := P) (G := G) (rec := rec) (all := all) (st0 := st0) (fr0 := fr0) (R :: recs) fr' st' := by
  unfold drawOne at h
  rw [Option.bind_eq_some_iff] at h; obtain ⟨bef, hbef, h⟩ := h
  dsimp only at h
  rw [Option.bind_eq_some_iff] at h; obtain ⟨⟨v, st1, need⟩, hdid, h⟩ := h
  dsimp only at h
  obtain ⟨hc, h⟩ := cond_none h
  rw [Option.bind_eq_some_iff] at h; obtain ⟨fr1, hput, h⟩ := h
  simp only [Option.some.injEq, Prod.mk.injEq] at h
  obtain ⟨hR, rfl, rfl⟩ := h
  simp only [Bool.and_eq_true, List.all_eq_true] at hc
  obtain ⟨⟨hpairs, hW⟩, hle⟩ := hc
  rw [hR] at hpairs
  have d1 : R.dst = o.dst := by rw [← hR]
  have d2 : R.reads = readsOf all o := by rw [← hR]
  have d3 : R.bef = bef := by rw [← hR]
  have d4 : R.lo = st.n := by rw [← hR]
  have d5 : R.hi = st1.n := by rw [← hR]
  have d6 : R.W = st1.W.filter (fun x => Nat.blt x st.n) := by rw [← hR]
  have d7 : R.need = need := by rw [← hR]
  have d8 : R.H = st1.H := by rw [← hR]
  have d9 : R.v = v := by rw [← hR]
  clear hR
  have hle := Nat.le_of_ble_eq_true hle
  have hW : ∀ x ∈ st1.W, x < st1.n := fun x hx => blt_lt (hW x hx)
  have hfits : ∀ d, o.dst = some d → d < fr0.N ∧ fr1 = { fr with τ := fr.τ.put d (some v) } := by
    intro d hd
    rw [hd] at hput
    obtain ⟨hb, hput⟩ := cond_none hput
    cases hput
    exact ⟨by rw [← hM.N]; exact blt_lt hb, rfl⟩
  have hfr : o.dst = none → fr1 = fr := by
    intro hd
    rw [hd] at hput
    cases hput
    rfl
  have memW : ∀ x, x ∈ R.W ↔ x ∈ st1.W ∧ x < st.n := fun x => by rw [d6]; simp [List.mem_filter, Nat.blt_eq]
  have hn := hM.n
  have hl := hM.le
  refine ⟨⟨hM.good, o, ho, ⟨d1, d2, by rw [hbef, d3], hpairs, by rw [d4, hM.n], by rw [d4, d5]; exact hle, fun x hx => by rw [d4]; exact ((memW x).1 hx).2, fun d hd => (hfits d (d1 ▸ hd)).1, fr.τ, hM.t, ?_⟩⟩, d5.symm, ?_, ?_, ?_, ?_, ?_, ?_, ?_, ?_⟩
  · rw [d2, d3, d4, d5, d7, d8, d9]
    split at hdid
    · rename_i hw
      cases hdid
      refine .inl ⟨hw, rfl, rfl, ?_, rfl⟩
      apply List.eq_nil_iff_forall_not_mem.2
      intro x hx
      have := ((memW x).1 hx).1
      simp at this
    · rename_i hw
      refine .inr ⟨hw, ?_⟩
      simp only [cond_eq_ite] at hdid
      split at hdid
      · rw [Option.bind_eq_some_iff] at hdid; obtain ⟨⟨v1, st2⟩, hop, hdid⟩ := hdid
        cases hdid
        refine ⟨_, _, det_some hop, rfl, rfl, hW, memW, fun x ob hx => ?_⟩
        obtain ⟨h1, h2⟩ := strip_get hx
        refine ⟨by rw [← hM.h]; exact h1, fun l hl => ?_, fun _ => h2⟩
        cases hl
      · rw [Option.bind_eq_some_iff] at hdid; obtain ⟨⟨v1, st2⟩, hop, hdid⟩ := hdid
        cases hdid
        refine ⟨_, _, det_some hop, rfl, rfl, hW, memW, fun x ob hx => ?_⟩
        obtain ⟨h1, h2⟩ := restrict_get hx
        refine ⟨by rw [← hM.h]; exact h1, fun l hl => ?_, fun hn => ?_⟩
        · cases hl; exact h2
        · cases hn
  · intro x
    simp only [apply_get]
    rw [← d6]
    have hmem : x ∈ (R.W ++ rangeL st.n (st1.n - st.n)) ↔ (x ∈ R.W) ∨ (R.lo ≤ x ∧ x < R.hi) := by
      rw [List.mem_append, rangeL_mem, d4, d5]
      constructor <;> rintro (h | h) <;> first | exact .inl h | (right; omega)
    unfold hRun
    show _ = gD st0.H.get ((R.touch, R.H.get) :: hL recs) top x
    by_cases hx : x ∈ (R.W ++ rangeL st.n (st1.n - st.n))
    · rw [if_pos hx, gD_head rfl (touch_iff.2 (hmem.1 hx)), d8]
    · rw [if_neg hx, gD_pass (.inl (touch_no (fun h => hx (hmem.2 (.inl h))) (fun h => hx (hmem.2 (.inr h))))), hM.h]
      rfl
  · intro t
    unfold tRun
    show _ = (gD fr0.τ.get ((R.writes, fun _ => some R.v) :: tL recs) top t).getD undef
    cases hq : R.writes t with
    | true =>
      have hd := writes_iff.1 hq
      rw [d1] at hd
      rw [gD_head rfl hq, (hfits t hd).2, d9]
      simp only [Tr.get_put, if_true]
    | false =>
      rw [gD_pass (.inl hq)]
      cases hd : o.dst with
      | none => rw [hfr hd, hM.t]; rfl
      | some d =>
        have hne : t ≠ d := by
          rintro rfl
          have := writes_iff.2 (d1.trans hd)
          rw [hq] at this
          cases this
        rw [(hfits d hd).2]
        simp only [Tr.get_put, if_neg hne]
        rw [hM.t]; rfl
  · cases hd : o.dst with
    | none => rw [hfr hd]; exact hM.N
    | some d => rw [(hfits d hd).2]; exact hM.N
  · cases hd : o.dst with
    | none => rw [hfr hd]; exact hM.ds
    | some d => rw [(hfits d hd).2]; exact hM.ds
  · intro x hx; exact List.mem_append_right _ (hM.w0 x hx)
  · intro R' hR' x hx
    rcases List.mem_cons.1 hR' with rfl | hR'
    · exact List.mem_append_left _ ((memW x).1 hx).1
    · exact List.mem_append_right _ (hM.w R' hR' x hx)
  · intro x hx
    rcases List.mem_append.1 hx with hx | hx
    · by_cases hlt : x < st.n
      · exact .inr (.inl ⟨_, List.mem_cons_self .., (memW x).2 ⟨hx, hlt⟩⟩)
      · exact .inr (.inr (by omega))
    · rcases hM.wf x hx with h | ⟨R', hR', h⟩ | h
      · exact .inl h
      · exact .inr (.inl ⟨R', List.mem_cons_of_mem _ hR', h⟩)
      · exact .inr (.inr h)
  · show st0.n ≤ R.hi
    rw [d5]
    omega
theorem draw_mid : ∀ {l : List Oper} {done : List Oper} {recs recs' : List Rc} {fr fr' : Fr} {st st' : St}, all = done ++ l → recs.length = done.length → Mid (P := P) (G := G) (rec := rec) (all := all) (st0 := st0) (fr0 := fr0) recs fr st →
    drawP P G rec all l recs fr st = some (recs', fr', st') → Mid (P := P) (G := G) (rec := rec) (all := all) (st0 := st0) (fr0 := fr0) recs' fr' st' ∧ recs'.length = all.length
  | [], done, recs, recs', fr, fr', st, st', e, hl, hM, h => by
    simp [drawP] at h
    obtain ⟨rfl, rfl, rfl⟩ := h
    exact ⟨hM, by rw [hl, e]; simp⟩
  | o :: l, done, recs, recs', fr, fr', st, st', e, hl, hM, h => by
    unfold drawP at h
    rw [Option.bind_eq_some_iff] at h; obtain ⟨⟨R, fr1, st1⟩, hone, h⟩ := h
    have ho : all[recs.length]? = some o := by rw [hl, e]; simp
    exact draw_mid (done := done ++ [o]) (by rw [e]; simp) (by simp [hl]) (mid_one hM ho hone) h
/-! ### Any order -/
theorem GoodR.suffix : ∀ {p1 S : List Rc}, GoodR P G rec all st0 fr0 (p1 ++ S) → GoodR P G rec all st0 fr0 S
  | [], _, h => h
  | _ :: p1, _, h => GoodR.suffix (p1 := p1) h.1
theorem nOf_le : ∀ {p1 S : List Rc}, GoodR P G rec all st0 fr0 (p1 ++ S) → nOf st0 S ≤ nOf st0 (p1 ++ S)
  | [], _, _ => Nat.le_refl _
  | q :: p1, S, h => by
    have ih := nOf_le (p1 := p1) h.1
    obtain ⟨_, o, _, ho⟩ := h
    have h1 := ho.lo
    have h2 := ho.le
    show nOf st0 S ≤ q.hi
    have : nOf st0 (p1 ++ S) = q.lo := h1.symm
    omega
/-- Two records, Q behind R. -/
theorem hi_le_lo {p1 p2 rest : List Rc} {Q R : Rc} (h : GoodR P G rec all st0 fr0 (p1 ++ Q :: (p2 ++ R :: rest))) : R.hi ≤ Q.lo := by
  obtain ⟨hg, o, _, ho⟩ := GoodR.at_ h
  have := nOf_le (p1 := p2) (S := R :: rest) hg
  rw [← ho.lo] at this
  exact this
theorem st0_le {p1 S : List Rc} (h : GoodR P G rec all st0 fr0 (p1 ++ S)) : st0.n ≤ nOf st0 S := by
  have := nOf_le (p1 := S) (S := []) (by simpa using h.suffix)
  simpa [nOf] using this
theorem split_len {recs : List Rc} {j : Nat} (h : j < recs.length) : ∃ pre R rest, recs = pre ++ R :: rest ∧ rest.length = j := by
  have hk : recs.length - 1 - j < recs.length := by omega
  refine ⟨recs.take (recs.length - 1 - j), recs[recs.length - 1 - j], recs.drop (recs.length - 1 - j + 1), ?_, by simp; omega⟩
  rw [← List.drop_eq_getElem_cons hk, List.take_append_drop]
theorem hL_app {a b : List Rc} : hL (a ++ b) = hL a ++ hL b := by simp [hL]
theorem tL_app {a b : List Rc} : tL (a ++ b) = tL a ++ tL b := by simp [tL]

structure Inv (recs : List Rc) (r0 : Ren) (w0 : World) (a0 : Act) (D : Nat → Bool) (r : Ren) (w : World) (a : Act) : Prop where
  dc : ∀ p1 R rest, recs = p1 ++ R :: rest → D rest.length = true → ∀ k, R.bef.testBit k = true → D k = true
  rel : RelF G r (gD st0.H.get (hL recs) D) w
  le : r0.le r
  new : ∀ i, r0 i = none → r i ≠ none → ∃ p1 R rest, recs = p1 ++ R :: rest ∧ D rest.length = true ∧ R.lo ≤ i ∧ i < R.hi
  fresh : ∀ i b k, r0 i = none → r i = some (b, k) → w0.heap.size ≤ b ∨ ∃ R ∈ recs, ∃ j k', j ∈ R.W ∧ r0 j = some (b, k')
  frame : ∀ b, b < w0.heap.size → (∀ R ∈ recs, ∀ i k, i ∈ R.W → r0 i ≠ some (b, k)) → w.heap[b]? = w0.heap[b]?
  live : ∀ p1 R rest, recs = p1 ++ R :: rest → D rest.length = true → ∀ x ∈ R.W, (∃ o, st0.H.get x = some o) ∨ st0.n ≤ x
  size : w0.heap.size ≤ w.heap.size
  os : w.os = w0.os
  tape : w.tape = w0.tape
  output : w.output = w0.output
  tsz : a.tmps.size = fr0.N
  tmps : ∀ t, VR r ((gD fr0.τ.get (tL recs) D t).getD undef) (a.tmps.getD t undef)
  defers : a.defers = a0.defers

/-- A frame cut down to some of its temporaries. -/
def cut (a : Act) (N : Nat) (l : List Tmp) : Act := { tmps := (Array.range N).map fun t => if t ∈ l then a.tmps.getD t undef else undef, defers := a.defers }
theorem cut_at {a : Act} {N : Nat} {l : List Tmp} (hN : a.tmps.size = N) (t : Nat) : (cut a N l).tmps.getD t undef = if t ∈ l then a.tmps.getD t undef else undef := by
  unfold cut
  by_cases h : t < N
  · simp [Array.getD_eq_getD_getElem?, h]
  · have e : a.tmps.getD t undef = undef := by simp [Array.getD_eq_getD_getElem?, show ¬ t < a.tmps.size by omega]
    rw [e]
    simp [Array.getD_eq_getD_getElem?, h]
theorem cut_q {a : Act} {N : Nat} {l : List Tmp} (hN : a.tmps.size = N) {t : Nat} (ht : t ∈ l) : (cut a N l).tmps[t]? = a.tmps[t]? := by
  unfold cut
  by_cases h : t < N
  · have h2 : t < a.tmps.size := by omega
    simp [h, h2, ht, Array.getD_eq_getD_getElem?]
  · rw [Array.getElem?_eq_none (by simp; omega), Array.getElem?_eq_none (by omega)]

/-- One more of them is done. -/
theorem inv_step {recs : List Rc} {r0 r r' : Ren} {w0 w w' : World} {a0 a : Act} {D : Nat → Bool} {pre rest : List Rc} {R : Rc} {o : Oper} {v' : Value} {st1 st2 : St}
    (hg : GoodR P G rec all st0 fr0 recs) (e : recs = pre ++ R :: rest) (hone : OneOk P G rec all st0 fr0 o R rest) (hI : Inv (G := G) (st0 := st0) (fr0 := fr0) recs r0 w0 a0 D r w a) (hDj : D rest.length = false) (hbef : ∀ k, R.bef.testBit k = true → D k = true)
    (hR0 : Rel G r0 st0 w0)
    (hsub : ∀ x ob, st1.H.get x = some ob → gD st0.H.get (hL recs) D x = some ob)
    (hsubl : ∀ x ob, st1.H.get x = some ob → x < st0.n → (∃ ob, st0.H.get x = some ob))
    (hn1 : st1.n = R.lo) (hW1 : st1.W = []) (hs : Step G r st1 w r' st2 w') (hn2 : R.hi = st2.n) (hH : R.H = st2.H) (hWlt : ∀ x ∈ st2.W, x < st2.n) (hW : ∀ x, x ∈ R.W ↔ x ∈ st2.W ∧ x < R.lo)
    (hfr : Fresh r R.lo R.hi) (hv : VR r' R.v v') (hpre : ∀ p1 Q p2, pre = p1 ++ Q :: p2 → D (p2.length + (rest.length + 1)) = true → PairP Q R) :
    Inv (G := G) (st0 := st0) (fr0 := fr0) recs r0 w0 a0 (fun i => if i = rest.length then true else D i) r' w' (a.put o.dst v') := by
  have hlo0 : st0.n ≤ R.lo := by
    rw [hone.lo]
    have hg2 := hg
    rw [e] at hg2
    exact st0_le (p1 := pre ++ [R]) (S := rest) (by simpa using hg2)
  -- the heap behind
  have hheap : ∀ x, gD st0.H.get (hL recs) (fun i => if i = rest.length then true else D i) x = if R.touch x = true then st2.H.get x else gD st0.H.get (hL recs) D x := by
    intro x
    cases ht : R.touch x with
    | true =>
      rw [if_pos rfl, e, hL_app, gD_skip]
      · show gD st0.H.get ((R.touch, R.H.get) :: hL rest) _ x = _
        rw [gD_head (by simp [hL]) ht, hH]
      · intro p1 q p2 e2 hD
        obtain ⟨l1, Q, l2, e3, _, rfl, rfl⟩ := map_split (f := fun R : Rc => (R.touch, R.H.get)) e2
        have hlen : (hL (R :: rest)).length = rest.length + 1 := by simp [hL]
        rw [hlen, List.length_map] at hD
        have hD : D (l2.length + (rest.length + 1)) = true := by
          rw [if_neg (by omega)] at hD
          exact hD
        have hp := hpre l1 Q l2 e3 hD
        have hle := hi_le_lo (p1 := l1) (p2 := l2) (rest := rest) (Q := Q) (R := R) (by rw [e, e3] at hg; simpa using hg)
        refine touch_no ?_ ?_
        · intro hx
          rcases touch_iff.1 ht with h1 | h1
          · exact hp.w x hx h1
          · exact hp.wr x hx h1
        · rintro ⟨h1, h2⟩
          rcases touch_iff.1 ht with h3 | h3
          · have := hone.old x h3
            have := hone.le
            omega
          · omega
    | false =>
      rw [if_neg (by simp)]
      refine gD_more (j := rest.length) (fun i hi => if_neg hi) ?_
      intro p1 q p2 e2 hl
      obtain ⟨l1, Q, l2, e3, _, rfl, rfl⟩ := map_split (f := fun R : Rc => (R.touch, R.H.get)) e2
      rw [List.length_map] at hl
      rw [e] at e3
      have := List.append_inj' e3 (by simp [hl])
      have := List.cons.inj this.2
      rw [← this.1]
      exact ht
  have htmp : ∀ t, gD fr0.τ.get (tL recs) (fun i => if i = rest.length then true else D i) t = if R.writes t = true then some R.v else gD fr0.τ.get (tL recs) D t := by
    intro t
    cases ht : R.writes t with
    | true =>
      rw [if_pos rfl, e, tL_app, gD_skip]
      · show gD fr0.τ.get ((R.writes, fun _ => some R.v) :: tL rest) _ t = _
        rw [gD_head (by simp [tL]) ht]
      · intro p1 q p2 e2 hD
        obtain ⟨l1, Q, l2, e3, _, rfl, rfl⟩ := map_split (f := fun R : Rc => (R.writes, fun _ => some R.v)) e2
        have hlen : (tL (R :: rest)).length = rest.length + 1 := by simp [tL]
        rw [hlen, List.length_map] at hD
        have hD : D (l2.length + (rest.length + 1)) = true := by
          rw [if_neg (by omega)] at hD
          exact hD
        have hp := hpre l1 Q l2 e3 hD
        cases hq : Q.writes t with
        | false => exact hq
        | true =>
          have := hp.dst t (writes_iff.1 hq)
          rw [ht] at this
          cases this
    | false =>
      rw [if_neg (by simp)]
      refine gD_more (j := rest.length) (fun i hi => if_neg hi) ?_
      intro p1 q p2 e2 hl
      obtain ⟨l1, Q, l2, e3, _, rfl, rfl⟩ := map_split (f := fun R : Rc => (R.writes, fun _ => some R.v)) e2
      rw [List.length_map] at hl
      rw [e] at e3
      have := List.append_inj' e3 (by simp [hl])
      have := List.cons.inj this.2
      rw [← this.1]
      exact ht
  -- what the step turned was alive, and is touched
  have turned : ∀ x, x ∈ st2.W → R.touch x = true ∧ ((∃ ob, gD st0.H.get (hL recs) D x = some ob) ∨ R.lo ≤ x) := by
    intro x hx
    refine ⟨touch_iff.2 ?_, ?_⟩
    · by_cases h1 : x < R.lo
      · exact .inl ((hW x).2 ⟨hx, h1⟩)
      · exact .inr ⟨by omega, by rw [hn2]; exact hWlt x hx⟩
    · rcases hs.wlive x hx with h1 | ⟨ob, h1⟩ | h1
      · rw [hW1] at h1; simp at h1
      · exact .inl ⟨ob, hsub x ob h1⟩
      · exact .inr (by omega)
  have keep : ∀ x ob b k, R.touch x = false → gD st0.H.get (hL recs) D x = some ob → r x = some (b, k) → w'.heap[b]? = w.heap[b]? := by
    intro x ob b k ht hx hr
    obtain ⟨b2, k2, hr2, hob⟩ := hI.rel.obj x ob hx
    rw [hr] at hr2
    cases hr2
    refine hs.frame b hob.lt fun i k' hi hri => ?_
    obtain ⟨ht2, h1 | h1⟩ := turned i hi
    · obtain ⟨ob2, h1⟩ := h1
      have := hI.rel.inj i x _ _ b k' k h1 hx hri hr
      rw [this, ht] at ht2
      cases ht2
    · rw [hfr i h1 (by rw [hn2]; exact hWlt i hi)] at hri
      cases hri
  refine ⟨?_, ⟨?_, ?_, ?_⟩, Ren.le_trans hI.le hs.le, ?_, ?_, ?_, ?_, Nat.le_trans hI.size hs.size, hs.os.trans hI.os, hs.tape.trans hI.tape, hs.output.trans hI.output, ?_, ?_, ?_⟩
  · intro p1 R' rest' e' hD k hk
    by_cases hl : rest'.length = rest.length
    · rw [e] at e'
      have h1 := List.append_inj' e' (by simp [hl])
      have h2 := List.cons.inj h1.2
      rw [← h2.1] at hk
      (try dsimp only)
      split
      · rfl
      · exact hbef k hk
    · (try dsimp only at hD ⊢)
      rw [if_neg hl] at hD
      split
      · rfl
      · exact hI.dc p1 R' rest' e' hD k hk
  · intro x ob hx
    rw [hheap] at hx
    split at hx
    · exact hs.rel.obj x ob hx
    · rename_i ht
      obtain ⟨b, k, hr, hob⟩ := hI.rel.obj x ob hx
      exact ⟨b, k, hs.le _ _ hr, hob.keep hs.le (keep x ob b k (by simpa using ht) hx hr)⟩
  · intro x y ox oy b kx ky hx hy hrx hry
    rw [hheap] at hx hy
    have mix : ∀ x y ox oy kx ky, R.touch x = true → st2.H.get x = some ox → R.touch y = false → gD st0.H.get (hL recs) D y = some oy → r' x = some (b, kx) → r' y = some (b, ky) → False := by
      intro x y ox oy kx ky htx hx hty hy hrx hry
      obtain ⟨b2, k2, hr2, hob⟩ := hI.rel.obj y oy hy
      have := hs.le _ _ hr2
      rw [hry] at this
      cases this
      cases hrx0 : r x with
      | some z =>
        have := hs.le _ _ hrx0
        rw [hrx] at this
        cases this
        rcases hs.dies x ox hx with ⟨ob, h1⟩ | h1
        · have := hI.rel.inj x y _ _ b kx ky (hsub x ob h1) hy hrx0 hr2
          rw [this, hty] at htx
          cases htx
        · have h3 : x < R.hi := by
            rcases touch_iff.1 htx with h4 | h4
            · have := hone.old x h4; have := hone.le; omega
            · exact h4.2
          rw [hfr x (by omega) h3] at hrx0
          cases hrx0
      | none =>
        rcases hs.fresh x b kx hrx0 hrx with h1 | ⟨j, k', hj, hrj⟩
        · have := hob.lt; omega
        · obtain ⟨ht2, h2 | h2⟩ := turned j hj
          · obtain ⟨ob2, h2⟩ := h2
            have := hI.rel.inj j y _ _ b k' ky h2 hy hrj hr2
            rw [this, hty] at ht2
            cases ht2
          · rw [hfr j h2 (by rw [hn2]; exact hWlt j hj)] at hrj
            cases hrj
    split at hx <;> split at hy
    · exact hs.rel.inj x y ox oy b kx ky hx hy hrx hry
    · rename_i h1 h2; exact (mix x y ox oy kx ky h1 hx (by simpa using h2) hy hrx hry).elim
    · rename_i h1 h2; exact (mix y x oy ox ky kx h2 hy (by simpa using h1) hx hry hrx).elim
    · obtain ⟨b1, k1, hr1, _⟩ := hI.rel.obj x ox hx
      obtain ⟨b2, k2, hr2, _⟩ := hI.rel.obj y oy hy
      have h1 := hs.le _ _ hr1
      rw [hrx] at h1
      cases h1
      have h2 := hs.le _ _ hr2
      rw [hry] at h2
      cases h2
      exact hI.rel.inj x y _ _ b kx ky hx hy hr1 hr2
  · intro g hg'
    obtain ⟨k, hk⟩ := hI.rel.glob g hg'
    exact ⟨k, hs.le _ _ hk⟩
  · intro i hi hi2
    cases hri : r i with
    | none =>
      have := hs.new i hri hi2
      exact ⟨pre, R, rest, e, by simp, by omega, by omega⟩
    | some z =>
      obtain ⟨p1, R', rest', e', hD, h1, h2⟩ := hI.new i hi (by simp [hri])
      exact ⟨p1, R', rest', e', by (try dsimp only); split <;> first | rfl | exact hD, h1, h2⟩
  · intro i b k hi hi2
    have memR : R ∈ recs := by rw [e]; simp
    cases hri : r i with
    | some z =>
      have := hs.le _ _ hri
      rw [hi2] at this
      cases this
      exact hI.fresh i b k hi hri
    | none =>
      rcases hs.fresh i b k hri hi2 with h1 | ⟨j, k', hj, hrj⟩
      · have := hI.size; exact .inl (by omega)
      · cases hj0 : r0 j with
        | some z =>
          have := hI.le _ _ hj0
          rw [hrj] at this
          cases this
          refine .inr ⟨R, memR, j, k', (hW j).2 ⟨hj, ?_⟩, hj0⟩
          rcases Nat.lt_or_ge j R.lo with h2 | h2
          · exact h2
          · rw [hfr j h2 (by rw [hn2]; exact hWlt j hj)] at hrj; cases hrj
        | none => exact hI.fresh j b k' hj0 hrj
  · intro b hb hno
    have memR : R ∈ recs := by rw [e]; simp
    have e1 := hI.frame b hb hno
    refine (hs.frame b (Nat.lt_of_lt_of_le hb hI.size) fun i k hi hri => ?_).trans e1
    have hlt : i < R.lo := by
      rcases Nat.lt_or_ge i R.lo with h2 | h2
      · exact h2
      · rw [hfr i h2 (by rw [hn2]; exact hWlt i hi)] at hri; cases hri
    cases hi0 : r0 i with
    | some z =>
      have := hI.le _ _ hi0
      rw [hri] at this
      cases this
      exact hno R memR i k ((hW i).2 ⟨hi, hlt⟩) hi0
    | none =>
      rcases hI.fresh i b k hi0 hri with h1 | ⟨R', hR', j, k', hj, hrj⟩
      · omega
      · exact hno R' hR' j k' hj hrj
  · intro p1 R' rest' e' hD x hx
    by_cases hl : rest'.length = rest.length
    · rw [e] at e'
      have h1 := List.append_inj' e' (by simp [hl])
      have h2 := List.cons.inj h1.2
      rw [← h2.1] at hx
      have hx2 := (hW x).1 hx
      rcases Nat.lt_or_ge x st0.n with h3 | h3
      · rcases hs.wlive x hx2.1 with h4 | ⟨ob, h4⟩ | h4
        · rw [hW1] at h4; simp at h4
        · exact .inl (hsubl x ob h4 h3)
        · omega
      · exact .inr h3
    · (try dsimp only at hD)
      rw [if_neg hl] at hD
      exact hI.live p1 R' rest' e' hD x hx
  · have : (a.put o.dst v').tmps.size = a.tmps.size := by
      cases o.dst <;> simp [Act.put]
    rw [this, hI.tsz]
  · intro t
    rw [htmp]
    have hd := hone.dst
    cases hw : R.writes t with
    | true =>
      rw [if_pos rfl]
      have h1 := writes_iff.1 hw
      have h2 : t < a.tmps.size := by rw [hI.tsz]; exact hone.fits t h1
      rw [hd] at h1
      have e1 : (a.put o.dst v').tmps.getD t undef = v' := by
        rw [h1]
        simp [Act.put, Array.getD_eq_getD_getElem?, h2]
      rw [e1]
      exact hv
    | false =>
      rw [if_neg (by simp)]
      have e1 : (a.put o.dst v').tmps.getD t undef = a.tmps.getD t undef := by
        cases hdd : o.dst with
        | none => rfl
        | some d =>
          have hne : d ≠ t := by
            rintro rfl
            have := writes_iff.2 (hd.trans hdd)
            rw [hw] at this
            cases this
          simp only [Act.put]
          rw [Array.getD_eq_getD_getElem?, Array.getD_eq_getD_getElem?, Array.getElem?_setIfInBounds_ne hne]
      rw [e1]
      exact (hI.tmps t).mono hs.le
  · have : (a.put o.dst v').defers = a.defers := by cases o.dst <;> rfl
    rw [this, hI.defers]

theorem defer_sel {τ : Tr Value} {o : Oper} {st : St} {x : List (Value × St)} (h : opP P G rec τ o st = some x) : (∀ cs b, o.op ≠ .select cs b) ∧ ∀ c, o.op ≠ .defer c := by
  constructor
  · intro cs b e
    have : opP P G rec τ o st = none := by
      unfold opP
      rw [e]
      simp only [op1, e]
      simp [lift1, plainP, e]
    rw [this] at h
    cases h
  · intro c e
    rw [defer_no e] at h
    cases h

set_option maxHeartbeats 1000000 in
theorem draw_any {recs : List Rc} {r0 : Ren} {w0 : World} {a0 : Act} {fr' : Fr} {st' : St} {ops : Array Oper} {ro : Option Nat} {m : Nat} {Q : Exit → Act → World → Prop} (hrec : RecOk P G rec) (hN : Kn P G) (hall : all = ops.toList)
    (hM : Mid (P := P) (G := G) (rec := rec) (all := all) (st0 := st0) (fr0 := fr0) recs fr' st') (hlen : recs.length = all.length) (hR0 : Rel G r0 st0 w0) (hf : Fresh r0 st0.n st'.n)
    (hQ : ∀ r w a, Inv (G := G) (st0 := st0) (fr0 := fr0) recs r0 w0 a0 top r w a → Q .normal a w) :
    ∀ (fuel : Nat) (listed : Array Bool) (r : Ren) (w : World) (a : Act), listed.size = ops.size → ((List.range ops.size).filter fun i => !(listed.getD i false)).length ≤ fuel →
      Inv (G := G) (st0 := st0) (fr0 := fr0) recs r0 w0 a0 (fun i => listed.getD i false || decide (ops.size ≤ i)) r w a → wpAnyIn (WF ro) m P .any ops Q fuel listed a w := by
  have hsz : recs.length = ops.size := by rw [hlen, hall]; simp
  have hOne : ∀ pre R rest, recs = pre ++ R :: rest → ∃ o, ops[rest.length]? = some o ∧ OneOk P G rec all st0 fr0 o R rest := by
    intro pre R rest e
    have hg := hM.good
    rw [e] at hg
    obtain ⟨_, o, ho, h⟩ := GoodR.at_ hg
    rw [hall] at ho
    exact ⟨o, by simpa using ho, h⟩
  -- all are listed, or one may come up
  have done : ∀ (listed : Array Bool), listed.size = ops.size → Region.ready .any ops listed = [] → ∀ i, i < ops.size → listed.getD i false = true := by
    intro listed hls hr i
    induction i using Nat.strongRecOn with
    | _ i ih =>
      intro hi
      cases hli : listed.getD i false with
      | true => rfl
      | false =>
        exfalso
        obtain ⟨pre, R, rest, e, hl⟩ := split_len (recs := recs) (j := i) (by omega)
        obtain ⟨o, ho, hone⟩ := hOne pre R rest e
        have : i ∈ Region.ready .any ops listed := by
          refine mem_ready.2 ⟨?_, o, by rw [← hl]; exact ho, ?_⟩
          · simpa [Array.getD_eq_getD_getElem?, show i < listed.size by omega] using hli
          · intro ed hed hb
            have := bef_lt hone.bef ed (by simpa using hed) hb
            exact ih ed.on (by omega) (by omega)
        rw [hr] at this
        cases this
  have finish : ∀ (listed : Array Bool) r w a, listed.size = ops.size → Region.ready .any ops listed = [] → Inv (G := G) (st0 := st0) (fr0 := fr0) recs r0 w0 a0 (fun i => listed.getD i false || decide (ops.size ≤ i)) r w a → Q .normal a w := by
    intro listed r w a hls hr hI
    refine hQ r w a ?_
    have e : (fun i => listed.getD i false || decide (ops.size ≤ i)) = top := by
      funext i
      rcases Nat.lt_or_ge i ops.size with h | h
      · rw [done listed hls hr i h]; rfl
      · simp [h, top]
    rw [e] at hI
    exact hI
  intro fuel
  induction fuel with
  | zero =>
    intro listed r w a hls hcount hI
    have hr : Region.ready .any ops listed = [] := by
      apply List.eq_nil_iff_forall_not_mem.2
      intro i hi
      obtain ⟨h1, o, ho, _⟩ := mem_ready.1 hi
      have hlt := (Array.getElem?_eq_some_iff.1 ho).1
      have h2 : i ∈ (List.range ops.size).filter fun i => !(listed.getD i false) := by
        rw [List.mem_filter]
        refine ⟨by simpa using hlt, ?_⟩
        have : i < listed.size := by omega
        simp [Array.getD_eq_getD_getElem?, this] at h1 ⊢
        exact h1
      rw [List.eq_nil_of_length_eq_zero (Nat.le_zero.1 hcount)] at h2
      cases h2
    exact ⟨hr, finish listed r w a hls hr hI⟩
  | succ fuel ih =>
    intro listed r w a hls hcount hI
    refine ⟨fun hr => finish listed r w a hls hr hI, fun j hj => ?_⟩
    obtain ⟨hun, o, ho, hedges⟩ := mem_ready.1 hj
    have hjlt := (Array.getElem?_eq_some_iff.1 ho).1
    have hjl : j < listed.size := by omega
    have hunf : listed.getD j false = false := by
      simp [Array.getD_eq_getD_getElem?, hjl] at hun ⊢
      exact hun
    obtain ⟨pre, R, rest, e, hl⟩ := split_len (recs := recs) (j := j) (by omega)
    obtain ⟨o', ho', hone⟩ := hOne pre R rest e
    rw [hl, ho] at ho'
    cases ho'
    subst hl
    have hg := hM.good
    have hg2 := hg
    rw [e] at hg2
    have hDj : (listed.getD rest.length false || decide (ops.size ≤ rest.length)) = false := by rw [hunf]; simp; omega
    -- those ahead are done
    have hbef : ∀ k, R.bef.testBit k = true → (listed.getD k false || decide (ops.size ≤ k)) = true := by
      intro k hk
      obtain ⟨ed, hed, hb, hlt, h1⟩ := bef_bit hone.bef k hk
      have hd := hedges ed (by simpa using hed) hb
      rcases h1 with rfl | ⟨R', hR', hk'⟩
      · rw [hd]; rfl
      · obtain ⟨p1, p2, e3, hp⟩ : ∃ p1 p2, rest = p1 ++ R' :: p2 ∧ p2.length = ed.on := by
          have hi := (List.getElem?_eq_some_iff.1 hR').1
          refine ⟨rest.take (rest.length - 1 - ed.on), rest.drop (rest.length - 1 - ed.on + 1), ?_, by simp; omega⟩
          have h5 := (List.getElem?_eq_some_iff.1 hR').2
          rw [← h5, ← List.drop_eq_getElem_cons hi, List.take_append_drop]
        refine hI.dc (pre ++ R :: p1) R' p2 (by rw [e, e3]; simp) ?_ k hk'
        (try dsimp only)
        rw [hp, hd]
        rfl
    -- pairs
    have hlater : ∀ p1 Q p2, pre = p1 ++ Q :: p2 → (listed.getD (p2.length + (rest.length + 1)) false || decide (ops.size ≤ p2.length + (rest.length + 1))) = true → PairP Q R := by
      intro p1 Q' p2 e3 hD
      have hg3 : GoodR P G rec all st0 fr0 (p1 ++ Q' :: (p2 ++ R :: rest)) := by rw [e3] at hg2; simpa using hg2
      obtain ⟨_, o3, _, hone3⟩ := GoodR.at_ hg3
      rcases allPairs_at hone3.pairs rfl with h1 | h1
      · have := hI.dc p1 Q' (p2 ++ R :: rest) (by rw [e, e3]; simp) (by
          (try dsimp only)
          have : (p2 ++ R :: rest).length = p2.length + (rest.length + 1) := by simp
          rw [this]; exact hD) rest.length h1
        (try dsimp only at this)
        rw [hDj] at this
        cases this
      · exact h1
    have hearlier : ∀ p1 Q p2, rest = p1 ++ Q :: p2 → (listed.getD p2.length false || decide (ops.size ≤ p2.length)) = false → R.bef.testBit p2.length = false ∧ PairP R Q := by
      intro p1 Q' p2 e3 hD
      have hb : R.bef.testBit p2.length = false := by
        cases hb : R.bef.testBit p2.length with
        | false => rfl
        | true => rw [hbef _ hb] at hD; cases hD
      rcases allPairs_at hone.pairs e3 with h1 | h1
      · rw [hb] at h1; cases h1
      · exact ⟨hb, h1⟩
    obtain ⟨τ, hτ, hdid⟩ := hone.did
    -- what it reads is there
    have hreads : ∀ t ∈ R.reads, gD fr0.τ.get (tL recs) (fun i => listed.getD i false || decide (ops.size ≤ i)) t = tRun fr0 rest t := by
      intro t ht
      rw [e, tL_app, gD_skip]
      · show gD fr0.τ.get (_ :: tL rest) _ t = _
        rw [gD_pass (.inr (by simpa [tL] using hDj))]
        refine gD_top ?_
        intro p1 q p2 e2 hD
        obtain ⟨l1, Q', l2, e3, _, rfl, rfl⟩ := map_split (f := fun R : Rc => (R.writes, fun _ => some R.v)) e2
        rw [List.length_map] at hD
        exact (hearlier l1 Q' l2 e3 hD).2.reads t ht
      · intro p1 q p2 e2 hD
        obtain ⟨l1, Q', l2, e3, _, rfl, rfl⟩ := map_split (f := fun R : Rc => (R.writes, fun _ => some R.v)) e2
        have h5 : (tL (R :: rest)).length = rest.length + 1 := by simp [tL]
        rw [h5, List.length_map] at hD
        exact (hlater l1 Q' l2 e3 hD).reads' t ht
    have hTc : TR r (restrictT τ R.reads) (cut a fr0.N R.reads).tmps := by
      intro t
      rw [cut_at hI.tsz, restrictT_get]
      by_cases ht : t ∈ R.reads
      · rw [if_pos ht, if_pos ht]
        have := hI.tmps t
        rw [hreads t ht, ← hτ t] at this
        exact this
      · rw [if_neg ht, if_neg ht]
        exact undef_ok
    have hrd := hone.reads
    have hwant : Region.wanted o (yielded ops a.tmps) = wantedP all (restrictT τ R.reads) o := by
      rw [wanted_ok hTc, hall]
      unfold Region.wanted
      cases hgd : o.guard with
      | none => rfl
      | some x =>
        obtain ⟨jg, want⟩ := x
        simp only [yielded, Array.toArray_toList]
        cases hoj : ops[jg]? with
        | none => rfl
        | some oj =>
          cases hdd : oj.dst with
          | none => simp [hdd]
          | some d =>
            have hmem : d ∈ R.reads := by
              rw [hrd]
              unfold readsOf
              rw [hgd, hall]
              simp [hoj, hdd]
            simp only [Option.bind_some, hdd]
            rw [cut_q hI.tsz hmem]
    have nextI : ∀ r' w' a', Inv (G := G) (st0 := st0) (fr0 := fr0) recs r0 w0 a0 (fun i => if i = rest.length then true else (listed.getD i false || decide (ops.size ≤ i))) r' w' a' →
        wpAnyIn (WF ro) m P .any ops Q fuel (listed.setIfInBounds rest.length true) a' w' := by
      intro r' w' a' hI'
      refine ih _ r' w' a' (by simp [hls]) ?_ ?_
      · have hmem : rest.length ∈ (List.range ops.size).filter fun i => !(listed.getD i false) := by
          rw [List.mem_filter]; exact ⟨by simpa using hjlt, by rw [hunf]; rfl⟩
        have hsub : ∀ (l : List Nat), l.Nodup → ((l.filter fun i => !((listed.setIfInBounds rest.length true).getD i false)).length + (if rest.length ∈ l.filter (fun i => !(listed.getD i false)) then 1 else 0)) ≤ (l.filter fun i => !(listed.getD i false)).length := by
          intro l hnd
          induction l with
          | nil => simp
          | cons x l ihl =>
            have hnd2 := List.nodup_cons.1 hnd
            have ihl := ihl hnd2.2
            by_cases hx : x = rest.length
            · subst hx
              have h1 : (listed.setIfInBounds rest.length true).getD rest.length false = true := by simp [Array.getD_eq_getD_getElem?, hjl]
              have h2 : ¬ rest.length ∈ l.filter (fun i => !(listed.getD i false)) := fun h => hnd2.1 (List.mem_filter.1 h).1
              rw [if_neg h2] at ihl
              simp only [List.filter_cons, h1, hunf, Bool.not_true, Bool.not_false, if_true]
              simp only [Bool.false_eq_true, if_false, List.mem_cons, true_or, if_true, List.length_cons]
              omega
            · have h1 : (listed.setIfInBounds rest.length true).getD x false = listed.getD x false := getD_set_ne false (fun h => hx h.symm)
              simp only [List.filter_cons, h1]
              cases hq : listed.getD x false with
              | true => simpa using ihl
              | false =>
                simp only [Bool.not_false, if_true, List.length_cons, List.mem_cons, show ¬ rest.length = x from fun h => hx h.symm, false_or]
                omega
        have := hsub (List.range ops.size) List.nodup_range
        rw [if_pos hmem] at this
        omega
      · have e4 : (fun i => (listed.setIfInBounds rest.length true).getD i false || decide (ops.size ≤ i)) = (fun i => if i = rest.length then true else (listed.getD i false || decide (ops.size ≤ i))) := by
          funext i
          by_cases hi : i = rest.length
          · subst hi
            have h1 : (listed.setIfInBounds rest.length true).getD rest.length false = true := by simp [Array.getD_eq_getD_getElem?, hjl]
            rw [h1, if_pos rfl]; rfl
          · rw [if_neg hi, getD_set_ne false (fun h => hi h.symm)]
        rw [e4]
        exact hI'
    have hlo0 : st0.n ≤ R.lo := by
      rw [hone.lo]
      exact st0_le (p1 := pre ++ [R]) (S := rest) (by simpa using hg2)
    have hhi : R.hi ≤ st'.n := by
      rw [hM.n, e]
      have := nOf_le (p1 := pre) (S := R :: rest) hg2
      exact this
    have hfr : Fresh r R.lo R.hi := by
      intro x h1 h2
      cases hrx : r x with
      | none => rfl
      | some z =>
        exfalso
        have hx0 : r0 x = none := hf x (by omega) (by omega)
        obtain ⟨p1, R', rest', e', hD, h3, h4⟩ := hI.new x hx0 (by simp [hrx])
        rcases Nat.lt_trichotomy rest'.length rest.length with h5 | h5 | h5
        · -- R' is ahead of R in the text
          obtain ⟨q2, e5⟩ : ∃ q2, rest = q2 ++ R' :: rest' := by
            have e6 := e.symm.trans e'
            have hsuf : R' :: rest' <:+ R :: rest := by
              refine List.suffix_of_suffix_length_le ⟨p1, e'.symm⟩ ⟨pre, e.symm⟩ (by simp; omega)
            rcases List.suffix_cons_iff.1 hsuf with h6 | ⟨q2, h6⟩
            · have := congrArg List.length h6; simp at this; omega
            · exact ⟨q2, h6.symm⟩
          have := hi_le_lo (p1 := pre) (p2 := q2) (rest := rest') (Q := R) (R := R') (by rw [e5] at hg2; exact hg2)
          omega
        · rw [e] at e'
          have h6 := List.append_inj' e' (by simp [h5])
          have h7 := List.cons.inj h6.2
          (try dsimp only at hD)
          rw [h5, hDj] at hD
          cases hD
        · obtain ⟨q2, e5⟩ : ∃ q2, rest' = q2 ++ R :: rest := by
            have hsuf : R :: rest <:+ R' :: rest' := by
              refine List.suffix_of_suffix_length_le ⟨pre, e.symm⟩ ⟨p1, e'.symm⟩ (by simp; omega)
            rcases List.suffix_cons_iff.1 hsuf with h6 | ⟨q2, h6⟩
            · have := congrArg List.length h6; simp at this; omega
            · exact ⟨q2, h6.symm⟩
          have := hi_le_lo (p1 := p1) (p2 := q2) (rest := rest) (Q := R') (R := R) (by have h8 := hg; rw [e', e5] at h8; exact h8)
          omega
    unfold wpOpIn
    rw [ho]
    (try dsimp only)
    rw [hwant]
    rcases hdid with ⟨hw, hv, hhl, hWn, hHn⟩ | ⟨hw, H, st2, hop, hn2, hH, hWlt, hW, hHsub⟩
    · rw [hw]
      refine ⟨fun _ _ => trivial, ?_⟩
      -- nothing is done
      have hs : Step G r { H := .nil, n := R.lo, W := [] } w r { H := .nil, n := R.lo, W := [] } w :=
        Step.refl ⟨fun i ob h => by simp [Tr.get_nil] at h, fun i j ob ob' b k k' h => by simp [Tr.get_nil] at h, hI.rel.glob⟩
      exact nextI r w _ (inv_step hg e hone hI hDj hbef hR0 (fun x ob h => by simp [Tr.get_nil] at h) (fun x ob h => by simp [Tr.get_nil] at h) rfl rfl hs hhl hHn (fun x h => by simp at h) (fun x => by rw [hWn]; simp) hfr (by rw [hv]; exact undef_ok) hlater)
    · rw [hw, if_pos rfl]
      obtain ⟨hnsel, hndef⟩ := defer_sel hop
      refine ⟨fun _ _ => trivial, ?_⟩
      rw [semAt_ok hndef]
      have hexec : execOp a.eval o = execOp (cut a fr0.N R.reads).eval o := by
        refine execOp_congr o hnsel fun x hx => ?_
        cases x with
        | tmp t =>
          have hmem : t ∈ R.reads := by
            rw [hrd]
            unfold readsOf
            refine List.mem_append_left _ (List.mem_filterMap.2 ⟨.tmp t, by simpa using hx, rfl⟩)
          show a.tmps.getD t undef = (cut a fr0.N R.reads).tmps.getD t undef
          rw [cut_at hI.tsz, if_pos hmem]
        | const c => rfl
        | global g => rfl
        | func f => rfl
      rw [hexec]
      have hsub : ∀ x ob, H.get x = some ob → gD st0.H.get (hL recs) (fun i => listed.getD i false || decide (ops.size ≤ i)) x = some ob := by
        intro x ob hx
        obtain ⟨h1, h2, h3⟩ := hHsub x ob hx
        rw [← h1]
        unfold hRun
        rw [e, hL_app, gD_skip]
        · show gD st0.H.get (_ :: hL rest) _ x = _
          rw [gD_pass (.inr (by simpa [hL] using hDj))]
          refine gD_top ?_
          intro p1 q p2 e2 hD
          obtain ⟨l1, Q', l2, e3, _, rfl, rfl⟩ := map_split (f := fun R : Rc => (R.touch, R.H.get)) e2
          rw [List.length_map] at hD
          obtain ⟨hb, hp⟩ := hearlier l1 Q' l2 e3 hD
          cases hn : R.need with
          | some l =>
            have := hp.need l hn x (h2 l hn)
            exact touch_no this.1 this.2
          | none =>
            refine touch_no (by rw [hp.calls hn]; simp) ?_
            rintro ⟨h5, h6⟩
            exact h3 hn (strange_at e3 hb h5 h6)
        · intro p1 q p2 e2 hD
          obtain ⟨l1, Q', l2, e3, _, rfl, rfl⟩ := map_split (f := fun R : Rc => (R.touch, R.H.get)) e2
          have h5 : (hL (R :: rest)).length = rest.length + 1 := by simp [hL]
          rw [h5, List.length_map] at hD
          have hp := hlater l1 Q' l2 e3 hD
          cases hn : R.need with
          | some l =>
            have := hp.need' l hn x (h2 l hn)
            exact touch_no this.1 this.2
          | none =>
            refine touch_no (by rw [hp.calls' hn]; simp) ?_
            rintro ⟨h5, h6⟩
            have hle := hi_le_lo (p1 := l1) (p2 := l2) (rest := rest) (Q := Q') (R := R) (by rw [e3] at hg2; simpa using hg2)
            have hlele := hone.le
            have hQhi : Q'.hi ≤ st'.n := by
              rw [hM.n, e, e3]
              have := nOf_le (p1 := l1) (S := Q' :: (l2 ++ R :: rest)) (by rw [e3] at hg2; simpa using hg2)
              simpa [nOf] using this
            rcases gD_from h1 with h7 | ⟨p3, q3, p4, e4, _, h7⟩
            · obtain ⟨b, k, hr, _⟩ := hR0.obj x ob h7
              rw [hf x (by omega) (by omega)] at hr
              cases hr
            · obtain ⟨m1, Q3, m2, e5, _, rfl, _⟩ := map_split (f := fun R : Rc => (R.touch, R.H.get)) e4
              have h8 := hi_le_lo (p1 := pre) (p2 := m1) (rest := m2) (Q := R) (R := Q3) (by rw [e5] at hg2; exact hg2)
              obtain ⟨_, o3, _, hone3⟩ := GoodR.at_ (p1 := pre ++ R :: m1) (R := Q3) (rest := m2) (by rw [e5] at hg2; simpa using hg2)
              have h9 := hone3.le
              rcases touch_iff.1 h7 with h10 | h10
              · have := hone3.old x h10; omega
              · omega
      have hRs : Rel G r { H, n := R.lo, W := [] } w := by
        refine ⟨fun i ob h => hI.rel.obj i ob (hsub i ob h), fun i j ob ob' b k k' h h' => hI.rel.inj i j ob ob' b k k' (hsub i ob h) (hsub j ob' h'), hI.rel.glob⟩
      have hsubl : ∀ x ob, H.get x = some ob → x < st0.n → ∃ ob, st0.H.get x = some ob := by
        intro x ob hx hlt
        rcases gD_from (hsub x ob hx) with h7 | ⟨p3, q3, p4, e4, hD4, h7⟩
        · exact ⟨ob, h7⟩
        · obtain ⟨m1, Q3, m2, e5, _, rfl, rfl⟩ := map_split (f := fun R : Rc => (R.touch, R.H.get)) e4
          rw [List.length_map] at hD4
          rcases touch_iff.1 h7 with h10 | h10
          · rcases hI.live m1 Q3 m2 e5 hD4 x h10 with h11 | h11
            · exact h11
            · omega
          · have h12 : st0.n ≤ Q3.lo := by
              obtain ⟨_, o3, _, hone3⟩ := GoodR.at_ (p1 := m1) (R := Q3) (rest := m2) (by rw [e5] at hg; exact hg)
              rw [hone3.lo]
              exact st0_le (p1 := m1 ++ [Q3]) (S := m2) (by rw [e5] at hg; simpa using hg)
            omega
      refine op_ok (τ := restrictT τ R.reads) hrec hN hRs (eval_ok hRs hTc) (fun x hx => by rw [List.mem_singleton.1 hx]; dsimp only; rw [← hn2]; exact hfr) hop a _ Q fun x hx r' w' v' hs hv => ?_
      rw [List.mem_singleton.1 hx] at hs hv
      exact nextI r' w' _ (inv_step hg e hone hI hDj hbef hR0 hsub hsubl rfl rfl hs hn2 hH hWlt hW hfr hv hlater)

theorem draw_ok (hrec : RecOk P G rec) (hN : Kn P G) (hm : P.follows .mixedOrders = true) : DrawOk P G rec := by
  intro ops fr fr' st st' recs h r w a ro m id hR hF hf
  have h0 : Mid (P := P) (G := G) (rec := rec) (all := ops.toList) (st0 := st) (fr0 := fr) [] fr st :=
    ⟨trivial, rfl, fun x => rfl, fun t => rfl, rfl, rfl, fun x h => h, fun R h => by simp at h, fun x h => .inl h, Nat.le_refl _⟩
  obtain ⟨hM, hlen⟩ := draw_mid (all := ops.toList) (done := []) (by simp) rfl h0 h
  refine wpIn_region_any hm ?_
  refine draw_any (ops := ops) (r0 := r) (w0 := w) (a0 := a) hrec hN rfl hM hlen hR hf ?_ ops.size (Array.replicate ops.size false) r _ a (by simp) ?_ ?_
  · -- all are done
    intro r' w' a' hI
    have hh : ∀ x, gD st.H.get (hL recs) top x = st'.H.get x := fun x => (hM.h x).symm
    refine ⟨rfl, r', ⟨?_, hI.le, ?_, by rw [hM.n]; exact hM.le, hM.w0, ?_, ?_, ?_, ?_, hI.size, hI.os, hI.tape, hI.output⟩, ?_⟩
    · have e : gD st.H.get (hL recs) top = st'.H.get := funext hh
      have := hI.rel
      rw [e] at this
      exact this
    · intro i hi hi2
      obtain ⟨p1, R, rest, e, _, h1, h2⟩ := hI.new i hi hi2
      have hg := hM.good
      rw [e] at hg
      obtain ⟨_, o, _, hone⟩ := GoodR.at_ hg
      have h3 := st0_le (p1 := p1 ++ [R]) (S := rest) (by simpa using hg)
      rw [← hone.lo] at h3
      have h4 := nOf_le (p1 := p1) (S := R :: rest) hg
      rw [hM.n, e]
      have h5 : nOf st (R :: rest) = R.hi := rfl
      omega
    · intro x hx
      rcases hM.wf x hx with h1 | ⟨R, hRm, h1⟩ | h1
      · exact .inl h1
      · obtain ⟨p1, rest, e⟩ := List.append_of_mem hRm
        exact .inr (hI.live p1 R rest e rfl x h1)
      · exact .inr (.inr h1)
    · intro x ob hx
      rw [← hh] at hx
      rcases gD_from hx with h1 | ⟨p3, q3, p4, e4, _, h7⟩
      · exact .inl ⟨ob, h1⟩
      · obtain ⟨m1, Q3, m2, e5, _, rfl, _⟩ := map_split (f := fun R : Rc => (R.touch, R.H.get)) e4
        rcases touch_iff.1 h7 with h10 | h10
        · exact hI.live m1 Q3 m2 e5 rfl x h10
        · have hg := hM.good
          rw [e5] at hg
          obtain ⟨_, o, _, hone⟩ := GoodR.at_ hg
          have h3 := st0_le (p1 := m1 ++ [Q3]) (S := m2) (by simpa using hg)
          rw [← hone.lo] at h3
          exact .inr (by omega)
    · intro i b k hi hi2
      rcases hI.fresh i b k hi hi2 with h1 | ⟨R, hRm, j, k', hj, hrj⟩
      · exact .inl h1
      · exact .inr ⟨j, k', hM.w R hRm j hj, hrj⟩
    · intro b hb hno
      exact hI.frame b hb fun R hRm i k hi => hno i k (hM.w R hRm i hi)
    · refine ⟨by rw [hI.tsz, hM.N], fun t => ?_, ?_⟩
      · have := hI.tmps t
        have e : (gD fr.τ.get (tL recs) top t).getD undef = (fr'.τ.get t).getD undef := (hM.t t).symm
        rw [e] at this
        exact this
      · rw [hI.defers, hM.ds]
        exact hF.defers.mono hI.le
  · exact Nat.le_trans (List.length_filter_le _ _) (by simp)
  · have hD : (fun i => (Array.replicate ops.size false).getD i false || decide (ops.size ≤ i)) = fun i => decide (ops.size ≤ i) := by
      funext i
      have : (Array.replicate ops.size false).getD i false = false := by
        rw [Array.getD_eq_getD_getElem?, Array.getElem?_replicate]
        split <;> rfl
      rw [this]; rfl
    rw [hD]
    have hsz : recs.length = ops.size := by rw [hlen]; simp
    have no : ∀ p1 R rest, recs = p1 ++ R :: rest → decide (ops.size ≤ rest.length) = true → False := by
      intro p1 R rest e hd
      have := congrArg List.length e
      simp at this hd
      omega
    have he : ∀ x, gD st.H.get (hL recs) (fun i => decide (ops.size ≤ i)) x = st.H.get x := by
      intro x
      have := gD_skip (g0 := st.H.get) (pre := hL recs) (S := []) (D := fun i => decide (ops.size ≤ i)) (x := x) fun p1 q p2 e2 hD => by
        obtain ⟨l1, Q', l2, e3, _, rfl, rfl⟩ := map_split (f := fun R : Rc => (R.touch, R.H.get)) e2
        exact (no l1 Q' l2 e3 (by simpa using hD)).elim
      rw [List.append_nil] at this
      exact this
    have ht : ∀ x, gD fr.τ.get (tL recs) (fun i => decide (ops.size ≤ i)) x = fr.τ.get x := by
      intro x
      have := gD_skip (g0 := fr.τ.get) (pre := tL recs) (S := []) (D := fun i => decide (ops.size ≤ i)) (x := x) fun p1 q p2 e2 hD => by
        obtain ⟨l1, Q', l2, e3, _, rfl, rfl⟩ := map_split (f := fun R : Rc => (R.writes, fun _ => some R.v)) e2
        exact (no l1 Q' l2 e3 (by simpa using hD)).elim
      rw [List.append_nil] at this
      exact this
    refine ⟨fun p1 R rest e hD => (no p1 R rest e hD).elim, ?_, Ren.le_refl r, fun i h1 h2 => absurd h1 h2, fun i b k h1 h2 => (by rw [h1] at h2; cases h2), fun _ _ _ => rfl, fun p1 R rest e hD => (no p1 R rest e hD).elim, Nat.le_refl _, rfl, rfl, rfl, hF.size, fun t => ?_, rfl⟩
    · rw [funext he]
      exact RelF.drawn (n := w.drawn + 1) hR
    · rw [ht]; exact hF.tmps t

/-- The whole run, at whatever depth. -/
theorem run_all (hN : Kn P G) (hm : P.follows .mixedOrders = true) (n : Nat) : RecOk P G (run P G n) := run_ok hN (fun _ hrec => draw_ok hrec hN hm) n
end Ev
end
section
namespace Ev
set_option linter.unusedVariables false
set_option linter.unusedSimpArgs false

def bnd {α β : Type} (x : Option α) (f : α → Option β) : Option β := Option.casesOn (motive := fun _ => Option β) x none f
theorem bnd_eq {α β : Type} (x : Option α) (f : α → Option β) : bnd x f = x.bind f := by cases x <;> rfl
def bndM {α β : Type} (x : Option (List α)) (f : α → Option (List β)) : Option (List β) :=
  Option.casesOn (motive := fun _ => Option (List β)) x none fun l => List.casesOn (motive := fun _ => Option (List β)) l (some []) fun a t => List.casesOn (motive := fun _ => Option (List β)) t (f a) fun _ _ => goM f (a :: t)
theorem bndM_eq {α β : Type} (x : Option (List α)) (f : α → Option (List β)) : bndM x f = bindM x f := by
  cases x with
  | none => rfl
  | some l =>
    cases l with
    | nil => rfl
    | cons a t =>
      cases t with
      | nil =>
        show f a = goM f [a]
        simp only [goM]
        cases f a <;> simp
      | cons b t => rfl
def liftQ {α : Type} (x : Option α) : Option (List α) := Option.casesOn (motive := fun _ => Option (List α)) x none fun a => some [a]
theorem liftQ_eq {α : Type} (x : Option α) : liftQ x = lift1 x := by cases x <;> rfl
def detQ {α : Type} (x : Option (List α)) : Option α := Option.casesOn (motive := fun _ => Option α) x none fun l => List.casesOn (motive := fun _ => Option α) l none fun a t => List.casesOn (motive := fun _ => Option α) t (some a) fun _ _ => none
theorem detQ_eq {α : Type} (x : Option (List α)) : detQ x = det x := by
  cases x with
  | none => rfl
  | some l =>
    cases l with
    | nil => rfl
    | cons a t => cases t <;> rfl
def orUndef (x : Option Value) : Value := Option.casesOn (motive := fun _ => Value) x undef (fun v => v)
theorem orUndef_eq (x : Option Value) : orUndef x = x.getD undef := by cases x <;> rfl

/-- A long list, in pieces that are remembered. -/
def chunkF {α : Type} (l : List α) (k : Nat) : Bx (List α) := Nat.rec (motive := fun _ => Bx (List α)) ⟨l⟩ (fun _ ih => ⟨ih.fn.drop 16⟩) k
theorem chunkF_eq {α : Type} (l : List α) : ∀ k, (chunkF l k).fn = l.drop (16 * k)
  | 0 => rfl
  | k + 1 => by
    show (chunkF l k).fn.drop 16 = _
    rw [chunkF_eq l k, List.drop_drop, Nat.mul_succ]
def nthF {α : Type} (l : List α) (n : Nat) : Option α := ((chunkF l (n / 16)).fn)[n % 16]?
theorem nthF_eq {α : Type} (l : Array α) (n : Nat) : nthF l.toList n = l[n]? := by
  unfold nthF
  rw [chunkF_eq, List.getElem?_drop, Nat.div_add_mod, Array.getElem?_toList]
def cEval (G : Cx) (x : Operand) : Bx (Tr Value → Option Value) :=
  match x with
  | .tmp t => ⟨fun τ => some (orUndef (τ.get t))⟩
  | .const v => bif closedV v then ⟨fun _ => some v⟩ else ⟨fun _ => none⟩
  | .global g => bif Nat.blt g G.n then ⟨fun _ => some (.pointer (some ⟨g, 0, none⟩))⟩ else ⟨fun _ => none⟩
  | .func f => ⟨fun _ => some (.func (.func f) #[] #[])⟩
theorem cEval_eq (G : Cx) (x : Operand) (τ : Tr Value) : (cEval G x).fn τ = eval G τ x := by
  cases x with
  | tmp t => simp only [cEval, eval, orUndef_eq]
  | const v => simp only [cEval, eval]; cases closedV v <;> rfl
  | global g => simp only [cEval, eval]; cases Nat.blt g G.n <;> rfl
  | func f => rfl
def cEvalL (G : Cx) : List Operand → Bx (Tr Value → Option (List Value))
  | [] => ⟨fun _ => some []⟩
  | x :: l => ⟨fun τ => bnd ((cEval G x).fn τ) fun v => bnd ((cEvalL G l).fn τ) fun vs => some (v :: vs)⟩
theorem cEvalL_eq (G : Cx) (τ : Tr Value) : ∀ l, (cEvalL G l).fn τ = evalL G τ l
  | [] => rfl
  | x :: l => by simp only [cEvalL, evalL, bnd_eq, cEval_eq, cEvalL_eq G τ l]
def cEvalP (G : Cx) : List (Nat × Operand) → Bx (Tr Value → Option (List (Nat × Value)))
  | [] => ⟨fun _ => some []⟩
  | (i, x) :: l => ⟨fun τ => bnd ((cEval G x).fn τ) fun v => bnd ((cEvalP G l).fn τ) fun vs => some ((i, v) :: vs)⟩
theorem cEvalP_eq (G : Cx) (τ : Tr Value) : ∀ l, (cEvalP G l).fn τ = evalP G τ l
  | [] => rfl
  | (i, x) :: l => by simp only [cEvalP, evalP, bnd_eq, cEval_eq, cEvalP_eq G τ l]

/-- A pointer's row. -/
def ptrCells (a : Value) (st : St) : Option (Nat × List Value) :=
  match a with
  | .pointer (some ⟨i, off, none⟩) => bnd (st.cells i) fun q => some (off, q.1)
  | _ => none
def cLoad (P : Program) (t : TypeId) : Bx (Value → St → Option Value) :=
  match isAggP P t with
  | some true => match sizeP P t with
    | some n => ⟨fun a st => bnd (ptrCells a st) fun q => bnd (sub q.2 q.1 n) fun l => some (.agg l.toArray)⟩
    | none => ⟨fun _ _ => none⟩
  | some false => ⟨fun a st => bnd (ptrCells a st) fun q => q.2[q.1]?⟩
  | none => ⟨fun _ _ => none⟩
theorem ptr_cases (a : Value) (st : St) : (∃ i off, a = .pointer (some ⟨i, off, none⟩)) ∨ (ptrCells a st = none ∧ ∀ P t, loadP P t a st = none) := by
  cases a with
  | pointer p =>
    cases p with
    | none => exact .inr ⟨rfl, fun _ _ => rfl⟩
    | some ad =>
      obtain ⟨i, off, sp⟩ := ad
      cases sp with
      | none => exact .inl ⟨i, off, rfl⟩
      | some s => exact .inr ⟨rfl, fun _ _ => rfl⟩
  | _ => exact .inr ⟨rfl, fun _ _ => rfl⟩
theorem cLoad_eq (P : Program) (t : TypeId) (a : Value) (st : St) : (cLoad P t).fn a st = loadP P t a st := by
  rcases ptr_cases a st with ⟨i, off, rfl⟩ | ⟨h1, h2⟩
  · unfold cLoad loadP ptrCells
    split
    · rename_i hA
      split
      · rename_i n hn
        simp only [bnd_eq, hA, hn, Option.bind_some]
        cases st.cells i <;> rfl
      · rename_i hn
        simp only [hA, hn, Option.bind_some, Option.bind_none]
        cases st.cells i <;> rfl
    · rename_i hA
      simp only [bnd_eq, hA, Option.bind_some]
      cases st.cells i <;> rfl
    · rename_i hA
      simp only [hA, Option.bind_none]
      cases st.cells i <;> rfl
  · rw [h2]
    unfold cLoad
    split
    · split
      · simp only [h1, bnd_eq, Option.bind_none]
      · rfl
    · simp only [h1, bnd_eq, Option.bind_none]
    · rfl

def eqBs : List UInt8 → List UInt8 → Bool
  | [], [] => true
  | x :: l, y :: m => bif Nat.beq x.toNat y.toNat then eqBs l m else false
  | _, _ => false
theorem eqBs_eq : ∀ (l m : List UInt8), eqBs l m = decide (l = m)
  | [], [] => rfl
  | [], _ :: _ => rfl
  | _ :: _, [] => rfl
  | x :: l, y :: m => by
    unfold eqBs
    rw [eqBs_eq l m]
    by_cases h : x = y
    · subst h
      have : Nat.beq x.toNat x.toNat = true := Nat.beq_refl _
      simp [this]
    · have : Nat.beq x.toNat y.toNat = false := by
        rw [beq_dec]
        exact decide_eq_false (fun e => h (UInt8.toNat_inj.1 e))
      simp [this, h]
def eqStr (a b : ByteArray) : Bool := eqBs a.data.toList b.data.toList
theorem eqStr_eq (a b : ByteArray) : eqStr a b = (a.toList == b.toList) := by
  unfold eqStr
  rw [eqBs_eq, ByteArray.toList_eq, ByteArray.toList_eq]
  by_cases h : a.data.toList = b.data.toList
  · rw [h]; simp
  · rw [decide_eq_false h]; symm; simpa using h
theorem pureRun_under {α : Type} {P : Program} {t : TypeId} {d : TypeDesc} (hu : P.underlying t = some d) (k : TypeDesc → Sem α) : pureRun P (underlying t >>= k) = pureRun P (k d) := by
  have : pureRun P (underlying t >>= k) = pureRun P ((match P.underlying t with | some d => (pure d : Sem TypeDesc) | none => stuck "no such type") >>= k) := rfl
  rw [this, hu]
  rfl
theorem op1_not {P : Program} {G : Cx} {τ : Tr Value} {o : Oper} {st : St} {t : TypeId} {x : Operand} {b : Bool} (e : o.op = .unOp .not t x) (hx : eval G τ x = some (.bool b)) : op1 P G τ o st = some (.bool !b, st) := by
  simp [op1, e, plainP, Op.operands, hx, closedV, execOp, Op.unary]
  rfl
theorem op1_str {P : Program} {G : Cx} {τ : Tr Value} {o : Oper} {st : St} {op : BinOp} {t yt : TypeId} {x y : Operand} {a b : ByteArray} (e : o.op = .binOp op t x y yt) (hx : eval G τ x = some (.string a)) (hy : eval G τ y = some (.string b)) :
    (op = .eql → op1 P G τ o st = some (.bool (eqStr a b), st)) ∧ (op = .neq → op1 P G τ o st = some (.bool !(eqStr a b), st)) := by
  constructor
  · rintro rfl
    simp [op1, e, plainP, Op.operands, hx, hy, closedV, execOp, binOp, Op.stringOp, eqGuard, intP, eqP, nilEq, ptrEqP, eqStr_eq]
    rfl
  · rintro rfl
    simp [op1, e, plainP, Op.operands, hx, hy, closedV, execOp, binOp, Op.stringOp, eqGuard, intP, eqP, nilEq, ptrEqP, eqStr_eq]
    rfl
theorem evalL_one {G : Cx} {τ : Tr Value} {l : List Operand} {v : Value} (h : evalL G τ l = some [v]) : ∃ x, l = [x] ∧ eval G τ x = some v := by
  match l, h with
  | [], h => cases h
  | x :: m, h =>
    unfold evalL at h
    cases hx : eval G τ x with
    | none => simp [hx] at h
    | some v1 =>
      cases hm : evalL G τ m with
      | none => simp [hx, hm] at h
      | some vs =>
        simp [hx, hm] at h
        obtain ⟨rfl, rfl⟩ := h
        cases m with
        | nil => exact ⟨x, rfl, hx⟩
        | cons y m =>
          unfold evalL at hm
          cases hy : eval G τ y with
          | none => simp [hy] at hm
          | some v2 =>
            cases hz : evalL G τ m with
            | none => simp [hy, hz] at hm
            | some _ => simp [hy, hz] at hm
theorem op1_lens {P : Program} {G : Cx} {τ : Tr Value} {o : Oper} {st : St} {args : Array Operand} {argTypes : Array TypeId} {t : TypeId} {tl : List TypeId} {s : ByteArray} (e : o.op = .call { callee := .builtin .len, args, argTypes }) (ht : argTypes.toList = t :: tl) (hu : P.underlying t = some .string)
    (hv : evalL G τ args.toList = some [.string s]) : op1 P G τ o st = some (.int .i64 (Int.ofNat s.data.toList.length), st) := by
  have ht0 : argTypes[0]? = some t := by rw [← Array.getElem?_toList, ht]; rfl
  obtain ⟨x, hx, hev⟩ := evalL_one hv
  have hargs : args = #[x] := by apply Array.toList_inj.1; simpa using hx
  subst hargs
  simp [op1, e, hv, plainP, Op.operands, Call.operands, hev, closedV, execOp, resolve, invoke, builtin, Builtin.len_, ht0]
  rw [pureRun_under hu]
  rfl
theorem op1_lenn {P : Program} {G : Cx} {τ : Tr Value} {o : Oper} {st : St} {args : Array Operand} {argTypes : Array TypeId} {t : TypeId} {tl : List TypeId} {el : TypeId} {n c : Nat} (e : o.op = .call { callee := .builtin .len, args, argTypes }) (ht : argTypes.toList = t :: tl) (hu : P.underlying t = some (.slice el))
    (hv : evalL G τ args.toList = some [.slice none n c]) : op1 P G τ o st = some (.int .i64 (n : Int), st) := by
  have ht0 : argTypes[0]? = some t := by rw [← Array.getElem?_toList, ht]; rfl
  obtain ⟨x, hx, hev⟩ := evalL_one hv
  have hargs : args = #[x] := by apply Array.toList_inj.1; simpa using hx
  subst hargs
  simp [op1, e, hv, plainP, Op.operands, Call.operands, hev, closedV, execOp, resolve, invoke, builtin, Builtin.len_, ht0]
  rw [pureRun_under hu]
  rfl
theorem op1_index {P : Program} {G : Cx} {τ : Tr Value} {o : Oper} {st : St} {t : TypeId} {x i : Operand} {s : ByteArray} {k : IntKind} {n : Nat} {b : UInt8} (e : o.op = .index t x i) (hu : P.underlying t = some .string) (hx : eval G τ x = some (.string s)) (hi : eval G τ i = some (.int k (.ofNat n))) (hb : s.data.toList[n]? = some b) :
    op1 P G τ o st = some (.int .u8 (b.toNat : Int), st) := by
  have hb2 : s[n]? = some b := by
    have h1 : n < s.data.toList.length := (List.getElem?_eq_some_iff.1 hb).1
    have h2 : n < s.size := by show n < s.data.size; rw [← Array.length_toList]; exact h1
    rw [getElem?_pos s n h2]
    have := (List.getElem?_eq_some_iff.1 hb).2
    rw [← this]
    rfl
  simp [op1, e, plainP, Op.operands, hx, hi, closedV, execOp, Instr.index, asIntOf]
  rw [pureRun_under hu]
  simp only [hb2]
  rfl
def cOp1 (P : Program) (G : Cx) (o : Oper) : Bx (Tr Value → St → Option (Value × St)) :=
  match o.op with
  | .move x => ⟨fun τ st => bnd ((cEval G x).fn τ) fun v => some (v, st)⟩
  | .assign x => ⟨fun τ st => bnd ((cEval G x).fn τ) fun v => some (v, st)⟩
  | .extract t i => ⟨fun τ st => bnd ((cEval G t).fn τ) fun t => match t with
    | .tuple vs => bnd (vs.toList[i]?) fun v => some (v, st)
    | _ => none⟩
  | .load t a => ⟨fun τ st => bnd ((cEval G a).fn τ) fun a => bnd ((cLoad P t).fn a st) fun v => some (v, st)⟩
  | .store t a x => ⟨fun τ st => bnd ((cEval G a).fn τ) fun a => bnd ((cEval G x).fn τ) fun x => bnd (storeP P t a x st) fun st => some (undef, st)⟩
  | .alloc T => match zeroP P T with
    | some z => ⟨fun τ st => some (.pointer (some ⟨st.n, 0, none⟩), st.new (.cells z.cells.toList T none))⟩
    | none => ⟨fun τ st => none⟩
  | .build t ps => ⟨fun τ st => bnd ((cEvalP G ps.toList).fn τ) fun ps => bnd (buildP P t ps) fun v => some (v, st)⟩
  | .buildSlice t n ps => ⟨fun τ st => bnd ((cEvalP G ps.toList).fn τ) fun ps => buildSliceP P t n ps st⟩
  | .nilCheck x => ⟨fun τ st => bnd ((cEval G x).fn τ) fun v => match v with
    | .pointer (some _) => some (v, st)
    | .func (.func _) _ _ => some (v, st)
    | .iface _ _ => some (v, st)
    | .func (.method name) first _ => bnd (nilFnP P name first) fun _ => some (v, st)
    | _ => none⟩
  | .field t x f => ⟨fun τ st => bnd ((cEval G x).fn τ) fun x => bnd (fieldP P t x f) fun v => some (v, st)⟩
  | .fieldAddr t x f => ⟨fun τ st => bnd ((cEval G x).fn τ) fun x => bnd (fieldAddrP P t x f) fun v => some (v, st)⟩
  | .indexAddr t x i => ⟨fun τ st => bnd ((cEval G x).fn τ) fun x => bnd ((cEval G i).fn τ) fun i => bnd (indexAddrP P t x i) fun v => some (v, st)⟩
  | .makeFunc fn a b => match fn with
    | .func _ => ⟨fun τ st => bnd ((cEvalL G a.toList).fn τ) fun a => bnd ((cEvalL G b.toList).fn τ) fun b => some (.func fn a.toArray b.toArray, st)⟩
    | .method _ => ⟨fun τ st => bnd ((cEvalL G a.toList).fn τ) fun a => bnd ((cEvalL G b.toList).fn τ) fun b => some (.func fn a.toArray b.toArray, st)⟩
    | _ => ⟨fun τ st => none⟩
  | .binOp op t x y _ => ⟨fun τ st => bnd ((cEval G x).fn τ) fun a => bnd ((cEval G y).fn τ) fun b => match intP op a b with
    | some v => some (v, st)
    | none => match op, a, b with
      | .eql, .string a, .string b => some (.bool (eqStr a b), st)
      | .neq, .string a, .string b => some (.bool !(eqStr a b), st)
      | _, _, _ => op1 P G τ o st⟩
  | .pick c a b => ⟨fun τ st => bnd ((cEval G c).fn τ) fun c => match c with
    | .bool true => bnd ((cEval G a).fn τ) fun v => bnd ((cEval G b).fn τ) fun _ => some (v, st)
    | .bool false => bnd ((cEval G a).fn τ) fun _ => bnd ((cEval G b).fn τ) fun v => some (v, st)
    | _ => none⟩
  | .box T x => ⟨fun τ st => bnd ((cEval G x).fn τ) fun v => some (.pointer (some ⟨st.n, 0, none⟩), st.new (.cells v.cells.toList T none))⟩
  | .unOp op t x => match op with
    | .not => ⟨fun τ st => match (cEval G x).fn τ with
      | some (.bool b) => some (.bool !b, st)
      | _ => op1 P G τ o st⟩
    | _ => ⟨fun τ st => op1 P G τ o st⟩
  | .index t x i => match P.underlying t with
    | some .string => ⟨fun τ st => match (cEval G x).fn τ, (cEval G i).fn τ with
      | some (.string s), some (.int k (.ofNat n)) => match s.data.toList[n]? with
        | some b => some (.int .u8 (b.toNat : Int), st)
        | none => op1 P G τ o st
      | _, _ => op1 P G τ o st⟩
    | _ => ⟨fun τ st => op1 P G τ o st⟩
  | .range t x => ⟨fun τ st => op1 P G τ o st⟩
  | .next it s => ⟨fun τ st => bnd ((cEval G it).fn τ) fun it => nextP it s st⟩
  | .lookup t m k ok => ⟨fun τ st => bnd ((cEval G m).fn τ) fun m => bnd ((cEval G k).fn τ) fun k => bnd (lookupP P t m k ok st) fun v => some (v, st)⟩
  | .mapUpdate t m k x => ⟨fun τ st => bnd ((cEval G m).fn τ) fun m => bnd ((cEval G k).fn τ) fun k => bnd ((cEval G x).fn τ) fun x => bnd (mapUpdateP P t m k x st) fun st => some (undef, st)⟩
  | .call { callee := .builtin b, args, argTypes } => match b with
    | .append => ⟨fun τ st => bnd ((cEvalL G args.toList).fn τ) fun vs => match vs with
      | [s, x] => appendP P argTypes.toList s x st
      | _ => op1 P G τ o st⟩
    | .len => match argTypes.toList with
      | t :: _ => match P.underlying t with
        | some (.slice _) => ⟨fun τ st => bnd ((cEvalL G args.toList).fn τ) fun vs => match vs with
          | [.slice (some _) n _] => some (.int .i64 (n : Int), st)
          | [.slice none n _] => some (.int .i64 (n : Int), st)
          | _ => op1 P G τ o st⟩
        | some .string => ⟨fun τ st => bnd ((cEvalL G args.toList).fn τ) fun vs => match vs with
          | [.string s] => some (.int .i64 (Int.ofNat s.data.toList.length), st)
          | _ => op1 P G τ o st⟩
        | _ => ⟨fun τ st => op1 P G τ o st⟩
      | _ => ⟨fun τ st => op1 P G τ o st⟩
    | _ => ⟨fun τ st => op1 P G τ o st⟩
  | _ => ⟨fun τ st => op1 P G τ o st⟩
set_option maxHeartbeats 1000000 in
theorem cOp1_eq (P : Program) (G : Cx) (o : Oper) (τ : Tr Value) (st : St) : (cOp1 P G o).fn τ st = op1 P G τ o st := by
  unfold cOp1
  split
  all_goals first | rfl | skip
  all_goals (rename_i e; try (simp only [op1, e, bnd_eq, cEval_eq, cEvalL_eq, cEvalP_eq, cLoad_eq]; done))
  · -- extract
    simp only [op1, e, bnd_eq, cEval_eq]
    congr 1
    funext v
    cases v <;> first | rfl | (simp only [Array.getElem?_toList])
  · -- alloc
    simp only [op1, e]
    split <;> rename_i h <;> simp only [h, Option.bind_some, Option.bind_none]
  · -- nilCheck
    simp only [op1, e, bnd_eq, cEval_eq]
    congr 1
  · -- makeFunc
    simp only [op1, e]
    split
    · simp only [bnd_eq, cEvalL_eq]
    · simp only [bnd_eq, cEvalL_eq]
    · rename_i fn _ _ _ hne hne2
      cases fn <;> first | rfl | exact absurd rfl (hne _) | exact absurd rfl (hne2 _)
  · -- binOp
    rename_i op t x y yt
    simp only [bnd_eq, cEval_eq]
    cases hx : eval G τ x with
    | none => simp only [op1, e, hx, Option.bind_none]
    | some a =>
      cases hy : eval G τ y with
      | none => simp only [op1, e, hx, hy, Option.bind_none, Option.bind_some]
      | some b =>
        simp only [Option.bind_some]
        split
        · rename_i v hi
          simp only [op1, e, hx, hy, Option.bind_some, hi]
        · split
          · exact ((op1_str e hx hy).1 rfl).symm
          · exact ((op1_str e hx hy).2 rfl).symm
          · rfl
  · -- pick
    simp only [op1, e, bnd_eq, cEval_eq]
    congr 1
  · -- unOp
    split
    · simp only [cEval_eq]
      split
      · rename_i hx
        exact (op1_not e hx).symm
      · rfl
    · rfl
  · -- index
    split
    · rename_i hu
      simp only [cEval_eq]
      split
      · rename_i hx hi
        split
        · rename_i hb
          exact (op1_index e hu hx hi hb).symm
        · rfl
      · rfl
    · rfl
  · -- builtin
    rename_i b args argTypes
    split
    · simp only [bnd_eq, cEvalL_eq]
      cases hv : evalL G τ args.toList with
      | none => simp only [op1, e, hv, Option.bind_none]
      | some vs =>
        simp only [Option.bind_some]
        split
        · simp only [op1, e, hv, Option.bind_some]
        · rfl
    · split
      · rename_i t tl ht
        split
        · rename_i el hu
          simp only [bnd_eq, cEvalL_eq]
          cases hv : evalL G τ args.toList with
          | none => simp only [op1, e, hv, Option.bind_none]
          | some vs =>
            simp only [Option.bind_some]
            split
            · simp only [op1, e, hv, ht, hu, Option.bind_some]
            · exact (op1_lenn e ht hu hv).symm
            · rfl
        · rename_i hu
          simp only [bnd_eq, cEvalL_eq]
          cases hv : evalL G τ args.toList with
          | none => simp only [op1, e, hv, Option.bind_none]
          | some vs =>
            simp only [Option.bind_some]
            split
            · exact (op1_lens e ht hu hv).symm
            · rfl
        · rfl
      · rfl
    · rfl

section
variable (P : Program) (G : Cx)
abbrev Rec := Task → Option (List Res)
def cOp (o : Oper) : Bx (Rec → Tr Value → St → Option (List (Value × St))) :=
  match o.op with
  | .call { callee := .value f, args, .. } => match f with
    | .func k => match nthF P.funcs.toList k with
      | some fn => match fn.body with
        | some _ => ⟨fun rec τ st => bnd ((cEvalL G args.toList).fn τ) fun args => bndM (rec (.call k args st)) fun r => Res.casesOn (motive := fun _ => Option (List (Value × St))) r fun _ v _ st => some [(v, st)]⟩
        | none => ⟨fun rec τ st => opP P G rec τ o st⟩
      | none => ⟨fun rec τ st => opP P G rec τ o st⟩
    | _ => ⟨fun rec τ st => bnd ((cEval G f).fn τ) fun f => bnd ((cEvalL G args.toList).fn τ) fun args => bnd (leadP P f args) fun ld => toLead P G rec ld st⟩
  | .call { callee := .invoke r name, args, .. } => ⟨fun rec τ st => opP P G rec τ o st⟩
  | .next it false => ⟨fun rec τ st => bnd ((cEval G it).fn τ) fun it => nextMN it st⟩
  | _ => ⟨fun rec τ st => liftQ ((cOp1 P G o).fn τ st)⟩
theorem cOp_eq (rec : Rec) (τ : Tr Value) (o : Oper) (st : St) : (cOp P G o).fn rec τ st = opP P G rec τ o st := by
  unfold cOp
  split
  · rename_i f args _ e
    split
    · rename_i k
      split
      · rename_i fn hfn
        rw [nthF_eq] at hfn
        split
        · rename_i c hc
          simp only [opP, e, eval, leadP, toLead, hfn, hc, bnd_eq, bndM_eq, cEvalL_eq, Option.bind_some, List.append_nil, List.nil_append, Array.toList_empty]
        · rfl
      · rfl
    · simp only [opP, e, bnd_eq, cEval_eq, cEvalL_eq]
  · rfl
  · rename_i it e
    simp only [opP, e, bnd_eq, cEval_eq]
  · rename_i h1 h2 h3
    show liftQ ((cOp1 P G o).fn τ st) = _
    rw [cOp1_eq, liftQ_eq]
    unfold opP
    split
    · rename_i e; exact absurd e (h1 _ _ _)
    · rename_i e; exact absurd e (h2 _ _ _ _)
    · rename_i e; exact absurd e (h3 _)
    · rfl
def cWant (all : List Oper) (o : Oper) : Bx (Tr Value → Bool) :=
  match o.guard with
  | none => ⟨fun _ => true⟩
  | some (j, want) => match all[j]? with
    | some oj => match oj.dst with
      | some d => match want with
        | true => ⟨fun τ => match orUndef (τ.get d) with
          | .bool b => b
          | _ => false⟩
        | false => ⟨fun τ => match orUndef (τ.get d) with
          | .bool b => !b
          | _ => false⟩
      | none => ⟨fun _ => false⟩
    | none => ⟨fun _ => false⟩
theorem cWant_eq (all : List Oper) (o : Oper) (τ : Tr Value) : (cWant all o).fn τ = wantedP all τ o := by
  unfold cWant wantedP
  split
  · rename_i h; simp only [h]
  · rename_i j want h
    simp only [h]
    split
    · rename_i oj h2
      simp only [h2]
      split
      · rename_i d h3
        simp only [h3]
        cases want <;> simp only [orUndef_eq] <;> cases (τ.get d).getD undef <;> simp
      · rename_i h3
        simp only [h3]
    · rename_i h2
      simp only [h2]
def cPut (d : Option Tmp) : Bx (Fr → Value → Option Fr) :=
  match d with
  | none => ⟨fun fr _ => some fr⟩
  | some t => ⟨fun fr v => Fr.casesOn (motive := fun _ => Option Fr) fr fun τ N ds => bif Nat.blt t N then some ⟨τ.put t (some v), N, ds⟩ else none⟩
theorem cPut_eq (d : Option Tmp) (fr : Fr) (v : Value) : (cPut d).fn fr v = put fr d v := by cases d <;> rfl
def cOps (all : List Oper) : List Oper → Bx (Rec → Fr → St → Option (List (Fr × St)))
  | [] => ⟨fun _ fr st => some [(fr, st)]⟩
  | o :: l => match o.guard with
    | none => ⟨fun rec fr st => bndM ((cOp P G o).fn rec fr.τ st) fun q => Prod.casesOn (motive := fun _ => Option (List (Fr × St))) q fun v st => bnd ((cPut o.dst).fn fr v) fun fr => chkO st.n ((cOps all l).fn rec fr st)⟩
    | some _ => ⟨fun rec fr st => match (cWant all o).fn fr.τ with
      | true => bndM ((cOp P G o).fn rec fr.τ st) fun q => Prod.casesOn (motive := fun _ => Option (List (Fr × St))) q fun v st => bnd ((cPut o.dst).fn fr v) fun fr => chkO st.n ((cOps all l).fn rec fr st)
      | false => bnd ((cPut o.dst).fn fr undef) fun fr => (cOps all l).fn rec fr st⟩
theorem cOps_eq (rec : Rec) (all : List Oper) : ∀ (l : List Oper) (fr : Fr) (st : St), (cOps P G all l).fn rec fr st = opsP P G rec all l fr st
  | [], _, _ => rfl
  | o :: l, fr, st => by
    unfold cOps opsP
    split
    · rename_i h
      have hw : wantedP all fr.τ o = true := by simp only [wantedP, h]
      simp only [hw, bnd_eq, bndM_eq, cOp_eq, cPut_eq, cOps_eq rec all l]
    · simp only [bnd_eq, bndM_eq, cOp_eq, cPut_eq, cOps_eq rec all l, cWant_eq]
      cases wantedP all fr.τ o <;> rfl
end
def andQ (a b : Bool) : Bool := Bool.casesOn (motive := fun _ => Bool) a false b
theorem andQ_eq (a b : Bool) : andQ a b = (a && b) := by cases a <;> rfl
def orQ (a b : Bool) : Bool := Bool.casesOn (motive := fun _ => Bool) a b true
theorem orQ_eq (a b : Bool) : orQ a b = (a || b) := by cases a <;> rfl
def allQ {α : Type} (l : List α) (p : α → Bool) : Bool := List.casesOn (motive := fun _ => Bool) l true (fun _ _ => l.all p)
theorem allQ_eq {α : Type} (l : List α) (p : α → Bool) : allQ l p = l.all p := by cases l <;> rfl
def disjQ (a b : List Nat) : Bool := List.casesOn (motive := fun _ => Bool) b true (fun _ _ => allQ a fun x => !(b.contains x))
theorem disjQ_eq (a b : List Nat) : disjQ a b = disj a b := by
  cases b with
  | nil => simp [disjQ, disj]
  | cons x b => simp only [disjQ, disj, allQ_eq]
def outQ (l : List Nat) (lo hi : Nat) : Bool := List.casesOn (motive := fun _ => Bool) l true (fun _ _ => bif Nat.beq lo hi then true else l.all fun x => !(inR lo hi x))
theorem outQ_eq (l : List Nat) (lo hi : Nat) : outQ l lo hi = l.all (fun x => !(inR lo hi x)) := by
  cases l with
  | nil => rfl
  | cons y l =>
    simp only [outQ]
    cases h : Nat.beq lo hi with
    | false => rfl
    | true =>
      have h := Nat.eq_of_beq_eq_true h
      subst h
      symm
      simp only [cond_true, List.all_eq_true]
      intro x _
      have : inR lo lo x = false := by
        unfold inR
        cases h1 : Nat.ble lo x with
        | false => rfl
        | true =>
          have h1 := Nat.le_of_ble_eq_true h1
          cases h2 : Nat.blt x lo with
          | false => rfl
          | true =>
            have h2 : x < lo := Nat.le_of_ble_eq_true h2
            omega
      simp [this]
def needQ (need : Option (List Nat)) (W : List Nat) (lo hi : Nat) : Bool := Option.casesOn (motive := fun _ => Bool) need (List.casesOn (motive := fun _ => Bool) W true (fun _ _ => false)) (fun l => andQ (disjQ l W) (outQ l lo hi))
theorem needQ_eq (need : Option (List Nat)) (W : List Nat) (lo hi : Nat) : needQ need W lo hi = (match need with
   | some l => disj l W && l.all (fun x => !(inR lo hi x))
   | none => W.isEmpty) := by
  cases need with
  | none => cases W <;> rfl
  | some l => simp only [needQ, andQ_eq, disjQ_eq, outQ_eq]
/-- Two operations' places, the same at each visit. -/
def tmpOk (reads : List Tmp) (dst : Option Tmp) (reads2 : List Tmp) (dst2 : Option Tmp) : Bool :=
  reads.all (fun t => !(match dst2 with | some d => Nat.beq d t | none => false)) && reads2.all (fun t => !(match dst with | some d => Nat.beq d t | none => false)) &&
  (match dst with | some d => !(match dst2 with | some d2 => Nat.beq d2 d | none => false) | none => true)
def allPairsF (bef lo hi : Nat) (W : List Nat) (need : Option (List Nat)) (dst : Option Tmp) (reads : List Tmp) : List Rc → Bool
  | [] => true
  | Q :: l => andQ (orQ (bef.testBit l.length) (Rc.casesOn (motive := fun _ => Bool) Q fun _ lo2 hi2 W2 need2 dst2 reads2 _ _ =>
      andQ (tmpOk reads dst reads2 dst2) (andQ (disjQ W W2) (andQ (outQ W lo2 hi2) (andQ (needQ need W2 lo2 hi2) (needQ need2 W lo hi)))))) (allPairsF bef lo hi W need dst reads l)
theorem allPairsF_eq (R : Rc) : ∀ l : List Rc, allPairsF R.bef R.lo R.hi R.W R.need R.dst R.reads l = allPairs R l
  | [] => rfl
  | Q :: l => by
    obtain ⟨bef2, lo2, hi2, W2, need2, dst2, reads2, H2, v2⟩ := Q
    simp only [allPairsF, allPairs, andQ_eq, orQ_eq, disjQ_eq, outQ_eq, needQ_eq, allPairsF_eq R l]
    congr 2
    simp only [pairOk, tmpOk, Rc.writes]
    rw [Bool.and_comm (_ && _ && _)]
    simp only [Bool.and_assoc]
    cases R.dst <;> simp <;> rfl
/-- Which operations come ahead: asked of the numbers alone. -/
def befL (bs : List Nat) (j : Nat) : List Edge → Option Nat
  | [] => some 0
  | e :: l => (befL bs j l).bind fun s => bif Region.binds .any e then
      (bif Nat.blt e.on j then (bs[j - 1 - e.on]?).bind fun b => some (s ||| 2 ^ e.on ||| b) else none) else some s
theorem befL_eq (recs : List Rc) (j : Nat) : ∀ l, befL (recs.map Rc.bef) j l = befOf recs j l
  | [] => rfl
  | e :: l => by
    unfold befL befOf
    rw [befL_eq recs j l]
    congr 1
    funext s
    cases Region.binds .any e with
    | false => rfl
    | true =>
      simp only [cond_true]
      cases Nat.blt e.on j with
      | false => rfl
      | true =>
        simp only [cond_true, List.getElem?_map]
        cases recs[j - 1 - e.on]? <;> rfl
section
variable (P : Program) (G : Cx)
def drawOneF (rec : Rec) (all : List Oper) (bef : Nat) (recs : List Rc) (o : Oper) (fr : Fr) (st : St) : Option (Rc × Fr × St) :=
  bnd (match (cWant all o).fn (restrictT fr.τ (readsOf all o)) with
   | false => some (undef, ({ H := .nil, n := st.n, W := [] } : St), some ([] : List Nat))
   | true => bif isLead o then
       bnd (detQ ((cOp P G o).fn rec (restrictT fr.τ (readsOf all o)) { H := stripH st.H (strange bef recs), n := st.n, W := [] })) fun q => some (q.1, q.2, none)
     else
       bnd (detQ ((cOp P G o).fn rec (restrictT fr.τ (readsOf all o)) { H := restrictH st.H (needsOf G (restrictT fr.τ (readsOf all o)) o), n := st.n, W := [] })) fun q => some (q.1, q.2, some (needsOf G (restrictT fr.τ (readsOf all o)) o))) fun q =>
  Prod.casesOn (motive := fun _ => Option (Rc × Fr × St)) q fun v q => Prod.casesOn (motive := fun _ => Option (Rc × Fr × St)) q fun st' need => St.casesOn (motive := fun _ => Option (Rc × Fr × St)) st' fun H' n' W' =>
  bif andQ (andQ (allPairsF bef st.n n' (W'.filter (fun x => Nat.blt x st.n)) need o.dst (readsOf all o) recs) (allQ W' (fun x => Nat.blt x n'))) (Nat.ble st.n n') then
    bnd ((cPut o.dst).fn fr v) fun fr' => some (⟨bef, st.n, n', W'.filter (fun x => Nat.blt x st.n), need, o.dst, readsOf all o, H', v⟩, fr', { H := applyH st.H H' (W'.filter (fun x => Nat.blt x st.n) ++ rangeL st.n (n' - st.n)), n := n', W := W' ++ st.W })
  else none
theorem drawOneF_eq (rec : Rec) (all : List Oper) (recs : List Rc) (o : Oper) (fr : Fr) (st : St) :
    (befOf recs recs.length o.after.toList).bind (fun bef => drawOneF P G rec all bef recs o fr st) = drawOne P G rec all recs o fr st := by
  unfold drawOneF drawOne
  simp only [bnd_eq, detQ_eq, cOp_eq, cPut_eq, cWant_eq]
  refine congrArg (Option.bind _) (funext fun bef => ?_)
  refine congr (congrArg Option.bind ?_) (funext fun q => ?_)
  · cases wantedP all (restrictT fr.τ (readsOf all o)) o <;> rfl
  · obtain ⟨v, ⟨H', n', W'⟩, need⟩ := q
    have e := allPairsF_eq ⟨bef, st.n, n', W'.filter (fun x => Nat.blt x st.n), need, o.dst, readsOf all o, H', v⟩ recs
    dsimp only at e
    simp only [andQ_eq, allQ_eq, e]
def drawF (rec : Rec) (all : List Oper) : List Oper → List Nat → List Rc → Fr → St → Option (List Rc × Fr × St)
  | [], bs, recs, fr, st => some (recs, fr, st)
  | o :: l, bs, recs, fr, st => bnd (befL bs bs.length o.after.toList) fun bef => bnd (drawOneF P G rec all bef recs o fr st) fun q => Prod.casesOn (motive := fun _ => Option (List Rc × Fr × St)) q fun R q => Prod.casesOn (motive := fun _ => Option (List Rc × Fr × St)) q fun fr st => drawF rec all l (bef :: bs) (R :: recs) fr st
theorem drawOneF_bef {rec : Rec} {all : List Oper} {bef : Nat} {recs : List Rc} {o : Oper} {fr : Fr} {st : St} {q : Rc × Fr × St} (h : drawOneF P G rec all bef recs o fr st = some q) : q.1.bef = bef := by
  unfold drawOneF at h
  simp only [bnd_eq] at h
  rw [Option.bind_eq_some_iff] at h
  obtain ⟨⟨v, ⟨H', n', W'⟩, need⟩, _, h⟩ := h
  dsimp only at h
  simp only [cond_eq_ite] at h
  split at h
  · rw [Option.bind_eq_some_iff] at h
    obtain ⟨fr', _, h⟩ := h
    cases h
    rfl
  · cases h
theorem drawF_eq (rec : Rec) (all : List Oper) : ∀ (l : List Oper) (recs : List Rc) (fr : Fr) (st : St), drawF P G rec all l (recs.map Rc.bef) recs fr st = drawP P G rec all l recs fr st
  | [], _, _, _ => rfl
  | o :: l, recs, fr, st => by
    simp only [drawF, drawP, bnd_eq, ← drawOneF_eq, befL_eq, List.length_map]
    rw [Option.bind_assoc]
    refine congrArg (Option.bind _) (funext fun bef => ?_)
    cases h : drawOneF P G rec all bef recs o fr st with
    | none => rfl
    | some q =>
      have hb := drawOneF_bef P G h
      obtain ⟨R, fr', st'⟩ := q
      dsimp only at hb
      subst hb
      exact drawF_eq rec all l (R :: recs) fr' st'
def cCode (c : Code) : Bx (Rec → Option Nat → Fr → St → Option (List Res)) :=
  match c with
  | .skip => ⟨fun _ _ fr st => some [⟨.normal, undef, fr, st⟩]⟩
  | .label _ => ⟨fun _ _ fr st => some [⟨.normal, undef, fr, st⟩]⟩
  | .ret => ⟨fun _ _ fr st => some [⟨.ret, undef, fr, st⟩]⟩
  | .exit id => ⟨fun _ _ fr st => some [⟨.exit id, undef, fr, st⟩]⟩
  | .seq a b => ⟨fun rec rd fr st => bndM (rec (.code a rd fr st)) fun r => Res.casesOn (motive := fun _ => Option (List Res)) r fun out v fr st => match out with
    | .normal => chk st.n (rec (.code b rd fr st))
    | _ => some [⟨out, v, fr, st⟩]⟩
  | .cond x a b => ⟨fun rec rd fr st => bnd ((cEval G x).fn fr.τ) fun v => match v with
    | .bool true => rec (.code a rd fr st)
    | .bool false => rec (.code b rd fr st)
    | _ => none⟩
  | .block id b => ⟨fun rec rd fr st => bndM (rec (.code b rd fr st)) fun r => Res.casesOn (motive := fun _ => Option (List Res)) r fun out v fr st => match out with
    | .exit i => bif Nat.beq i id then some [⟨.normal, v, fr, st⟩] else some [⟨out, v, fr, st⟩]
    | _ => some [⟨out, v, fr, st⟩]⟩
  | .loop b => ⟨fun rec rd fr st => bndM (rec (.code b rd fr st)) fun r => Res.casesOn (motive := fun _ => Option (List Res)) r fun out v fr st => match out with
    | .normal => chk st.n (rec (.code (.loop b) rd fr st))
    | _ => some [⟨out, v, fr, st⟩]⟩
  | .region _ ops draw => match draw with
    | false => ⟨fun rec rd fr st => bndM ((cOps P G ops.toList ops.toList).fn rec fr st) fun q => Prod.casesOn (motive := fun _ => Option (List Res)) q fun fr st => some [⟨.normal, undef, fr, st⟩]⟩
    | true => ⟨fun rec rd fr st => bnd (drawF P G rec ops.toList ops.toList [] [] fr st) fun q => some [⟨.normal, undef, q.2.1, q.2.2⟩]⟩
  | .scope b => ⟨fun rec rd fr st => rec (.inSc b b rd fr st)⟩
  | _ => ⟨fun rec rd fr st => codeP P G rec c rd fr st⟩
theorem cCode_eq (rec : Rec) (c : Code) (rd : Option Nat) (fr : Fr) (st : St) : (cCode P G c).fn rec rd fr st = codeP P G rec c rd fr st := by
  unfold cCode
  split
  all_goals first | rfl | skip
  · simp only [codeP, bndM_eq]
    congr 1
  · simp only [codeP, bnd_eq, cEval_eq]
    congr 1
  · simp only [codeP, bndM_eq]
    congr 1
  · simp only [codeP, bndM_eq]
    congr 1
  · split
    · simp only [codeP, bndM_eq, cOps_eq]
    · have e := drawF_eq P G rec
      rename_i ops _
      have e := e ops.toList ops.toList [] fr st
      simp only [List.map_nil] at e
      simp only [codeP, bnd_eq, e]
def cBody (f : Nat) : Bx (Rec → List Value → St → Option (List Res)) :=
  match nthF P.funcs.toList f with
    | some fn => match fn.body with
      | some c => ⟨fun rec args st => bif Nat.ble args.length fn.ntmps then
          bndM (rec (.code c none ⟨argTr args, fn.ntmps, []⟩ st)) fun r => Res.casesOn (motive := fun _ => Option (List Res)) r fun out _ fr st => match out with
          | .normal => bnd (shutP fr.ds st) fun st => bnd (resultP P fn fr.τ st) fun v => some [⟨.normal, v, fr, st⟩]
          | .ret => bnd (shutP fr.ds st) fun st => bnd (resultP P fn fr.τ st) fun v => some [⟨.normal, v, fr, st⟩]
          | _ => none
        else none⟩
      | none => ⟨fun rec args st => none⟩
    | none => ⟨fun rec args st => none⟩
theorem cBody_eq (rec : Rec) (f : Nat) (args : List Value) (st : St) : (cBody P f).fn rec args st = callP P rec f args st := by
  unfold cBody callP
  rw [nthF_eq]
  split
  · rename_i fn hfn
    split
    · rename_i c hc
      simp only [hfn, hc, Option.bind_some, bnd_eq, bndM_eq]
      cases Nat.ble args.length fn.ntmps
      · rfl
      · simp only [cond_true]
        congr 1
    · rename_i hc
      simp only [hfn, hc, Option.bind_some, Option.bind_none]
  · rename_i hfn
    simp only [hfn, Option.bind_none]
def cCallX (f : Nat) : Bx (Rec → List Value → St → Option (List Res)) :=
  match findX G.X f with
  | some .yes => ⟨fun rec args st => match args with
      | [] => some [⟨.normal, .bool true, ⟨.nil, 0, []⟩, st⟩]
      | _ => none⟩
  | _ => bif G.J.contains f then ⟨fun rec args st => bnd ((cBody P f).fn rec args { H := st.H, n := st.n, W := [] }) (joinL st)⟩ else cBody P f
def cCall (f : Nat) : Bx (Rec → List Value → St → Option (List Res)) :=
  bif G.M.any (fun m => Nat.beq m.1 f) then ⟨fun rec args st => match findM G.M f args with
    | some v => some [⟨.normal, v, ⟨.nil, 0, []⟩, st⟩]
    | none => (cCallX P G f).fn rec args st⟩ else cCallX P G f
def stepF (rec : Rec) (t : Task) : Option (List Res) :=
  match t with
  | .code c rd fr st => (cCode P G c).fn rec rd fr st
  | .inSc all c rd fr st => scopedP rec all c rd fr st
  | .call f args st => (cCall P G f).fn rec args st
theorem findM_no : ∀ {L : List (Nat × List Value × Value)} {f : Nat} {args : List Value}, (L.any fun m => Nat.beq m.1 f) = false → findM L f args = none
  | [], _, _, _ => rfl
  | (g, xs, u) :: l, f, args, h => by
    simp only [List.any_cons, Bool.or_eq_false_iff] at h
    simp only [findM, h.1, Bool.false_and, cond_false]
    exact findM_no h.2
theorem cCallX_eq (rec : Rec) (f : Nat) (args : List Value) (st : St) : (cCallX P G f).fn rec args st = callX P G rec f args st := by
    unfold callX
    unfold cCallX
    split
    · rename_i hy
      simp only [hy]
      cases args <;> rfl
    · rename_i hy
      have e1 : (match findX G.X f with | some .yes => (match args with | [] => some [⟨.normal, .bool true, ⟨.nil, 0, []⟩, st⟩] | _ => none) | _ => bif G.J.contains f then joinC P rec f args st else callP P rec f args st) = (bif G.J.contains f then joinC P rec f args st else callP P rec f args st) := by
        split
        · rename_i h2; exact absurd h2 hy
        · rfl
      refine Eq.trans ?_ e1.symm
      cases G.J.contains f with
      | true => simp only [cond_true, bnd_eq, cBody_eq, joinC]
      | false => simp only [cond_false, cBody_eq]
theorem stepF_eq (rec : Rec) (t : Task) : stepF P G rec t = stepP P G rec t := by
  cases t with
  | code c rd fr st => exact cCode_eq P G rec c rd fr st
  | inSc all c rd fr st => rfl
  | call f args st =>
    simp only [stepF, stepP]
    unfold cCall
    cases hb : G.M.any fun m => Nat.beq m.1 f with
    | true =>
      simp only [cond_true]
      cases findM G.M f args with
      | some v => rfl
      | none => exact cCallX_eq P G rec f args st
    | false =>
      simp only [cond_false, findM_no hb]
      exact cCallX_eq P G rec f args st
end
def runF (P : Program) (G : Cx) (n : Nat) : Task → Option (List Res) :=
  Nat.rec (motive := fun _ => Task → Option (List Res)) (fun _ => none) (fun _ r => stepF P G r) n
theorem runF_eq (P : Program) (G : Cx) : ∀ n, runF P G n = run P G n
  | 0 => rfl
  | n + 1 => by
    have ih := runF_eq P G n
    funext t
    show stepF P G (runF P G n) t = stepP P G (run P G n) t
    rw [ih, stepF_eq]
end Ev
end
section
namespace Ev
open Go.RowKit

/-- Is just this answered, whatever comes? -/
def isV (v : Value) (x : Option (List Res)) : Bool := match x with
  | some l => l.all fun r => eqV 5 r.v v
  | _ => false
def noNum (P : Program) : Bool := P.funcs.toList.all fun fn => !(fn.name == "runtime.NumGoroutine")
/-- What is said of the functions that the run does not enter. -/
structure Ok (P : Program) (X : List (Nat × Ext)) : Prop where
  ext : ∀ (f : Nat) (e : Ext), findX X f = some e → e ≠ .yes → ∀ args w, (callFunc f args).run P w = ((semX e args).run P w).andThen fun v w' => .ok (.value v) w'
  yes : ∀ (f : Nat), findX X f = some .yes → ∀ w, Calls P f #[] w fun e w' => e = .returned (.bool true) ∧ Chg [] w w'
/-- What is known of calls with closed arguments. -/
structure OkM (P : Program) (M : List (Nat × List Value × Value)) : Prop where
  mem : ∀ m ∈ M, closedL m.2.1 = true ∧ closedV m.2.2 = true ∧ ∀ w, Calls P m.1 m.2.1.toArray w fun e w' => e = .returned m.2.2 ∧ Chg [] w w'
theorem no_mem (P : Program) : OkM P [] := ⟨fun m h => (by cases h)⟩
theorem one_mem {P : Program} {M : List (Nat × List Value × Value)} {f : Nat} {args : List Value} {v : Value} (ha : closedL args = true) (hv : closedV v = true)
    (hf : ∀ w, Calls P f args.toArray w fun e w' => e = .returned v ∧ Chg [] w w') (hM : OkM P M) : OkM P ((f, args, v) :: M) := ⟨fun m h => by
  rcases List.mem_cons.1 h with rfl | h
  · exact ⟨ha, hv, hf⟩
  · exact hM.mem m h⟩
theorem closed_val {P : Program} {X : List (Nat × Ext)} {M : List (Nat × List Value × Value)} {g f n : Nat} {args : List Value} {v : Value} (J : List Nat) (hN : noNum P = true) (hX : Ok P X) (hM : OkM P M)
    (hm : P.follows .mixedOrders = true) (ha : closedL args = true) (hcv : closedV v = true) (h : isV v (runF P ⟨g, X, J, M⟩ n (.call f args ⟨.nil, g, []⟩)) = true) (w : World) :
    Calls P f args.toArray w fun e w' => e = .returned v ∧ Chg [] w w' := by
  have hK : Kn P ⟨g, X, J, M⟩ := ⟨fun f fn hf => by
    have h1 := List.all_eq_true.1 hN fn (by
      have := Array.mem_of_getElem? hf
      simpa using this)
    simpa using h1, fun f hf w => (hX.yes f hf w).mono fun e w' ⟨h1, h2⟩ => ⟨h1, ⟨h2.os, h2.tape, h2.output, h2.size, fun b hb => h2.block b hb (by simp)⟩⟩,
    fun m hm => ⟨(hM.mem m hm).1, (hM.mem m hm).2.1, fun w => ((hM.mem m hm).2.2 w).mono fun e w' ⟨h1, h2⟩ => ⟨h1, ⟨h2.os, h2.tape, h2.output, h2.size, fun b hb => h2.block b hb (by simp)⟩⟩⟩, hX.ext⟩
  rw [runF_eq] at h
  unfold isV at h
  split at h
  case h_2 => cases h
  rename_i L hrun
  have hc : CallOk P ⟨g, X, J, M⟩ f args ⟨.nil, g, []⟩ L := run_all hK hm n _ _ hrun
  have hr : Rel ⟨g, X, J, M⟩ (fun i => if i < g then some (i, 0) else none) (⟨.nil, g, []⟩ : St) w :=
    ⟨fun i ob h => by simp [Tr.get_nil] at h, fun i j ob ob' b k k' h => by simp [Tr.get_nil] at h, fun i hi => ⟨0, if_pos hi⟩⟩
  have := hc _ w args 0 hr (LR.closed args ha) (fun q _ i h1 _ => if_neg (by have : g ≤ i := h1; omega))
  refine (callsIn_wide (n := 0).1 (show CallsIn Fence.wide 0 P f args.toArray w _ from this)).mono ?_
  rintro e w' ⟨q, hq, r', v', rfl, hv, hs⟩
  have hqv : q.v = v := eqV_ok 5 _ _ (List.all_eq_true.1 h q hq)
  rw [hqv] at hv
  refine ⟨by rw [VR.closed_eq hv hcv], hs.os, hs.tape, hs.output, hs.size, fun k hk _ => hs.frame k hk fun i kk hi h => ?_⟩
  rcases hs.wlive i hi with h1 | ⟨ob, h1⟩ | h1
  · simp at h1
  · simp [Tr.get_nil] at h1
  · rw [if_neg (by have : g ≤ i := h1; omega)] at h
    cases h
theorem closed_callM {P : Program} {X : List (Nat × Ext)} {M : List (Nat × List Value × Value)} {g f n : Nat} (J : List Nat) (hN : noNum P = true) (hX : Ok P X) (hM : OkM P M)
    (hm : P.follows .mixedOrders = true) (h : isV (.bool true) (runF P ⟨g, X, J, M⟩ n (.call f [] ⟨.nil, g, []⟩)) = true) (w : World) :
    Calls P f #[] w fun e w' => e = .returned (.bool true) ∧ Chg [] w w' := closed_val J hN hX hM hm rfl rfl h w
theorem no_ext (P : Program) : Ok P [] := ⟨fun f e h => (by cases h), fun f h => (by cases h)⟩
theorem one_ext {P : Program} {f : Nat} {e : Ext} {fn : Func} {X : List (Nat × Ext)} (hf : P.funcs[f]? = some fn) (hn : (fn.name == "runtime.NumGoroutine") = false) (hb : fn.body.isNone = true) (h1 : Extern.findNext fn = none) (h2 : Extern.find fn = some (semX e))
    (hX : Ok P X) (hy : e ≠ .yes := by intro h; cases h) : Ok P ((f, e) :: X) where
  ext := by
    intro g e' h hne args w
    simp only [findX, cond_eq_ite] at h
    split at h
    · rename_i he
      have he := Nat.eq_of_beq_eq_true he
      subst he
      cases h
      have hn' : ¬ fn.name = "runtime.NumGoroutine" := by simpa using hn
      have hb' : fn.body = none := by simpa using hb
      simp [callFunc, hf, hn', hb', h1, h2]
    · exact hX.ext g e' h hne args w
  yes := by
    intro g h
    simp only [findX, cond_eq_ite] at h
    split at h
    · cases h; exact absurd rfl hy
    · exact hX.yes g h
end Ev
end
end Go.Proofs.YtcnbgdplkobenaaGreatDoor
