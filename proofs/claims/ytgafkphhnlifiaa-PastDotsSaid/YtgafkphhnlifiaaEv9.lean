/- Regions that draw their order: what any order of them comes to. No program is named here. -/
import Derived.Test.YtgafkphhnlifiaaEv8
namespace Go.Proofs.Ytgafkphhnlifiaa
namespace Ev
set_option linter.unusedVariables false
set_option linter.unusedSimpArgs false
open Go.RowKit

/-- What stands where, by the last one done that touches it. -/
def gD {α : Type} (g0 : Nat → Option α) : List ((Nat → Bool) × (Nat → Option α)) → (Nat → Bool) → Nat → Option α
  | [], _, x => g0 x
  | p :: L, D, x => if D L.length && p.1 x then p.2 x else gD g0 L D x
section
variable {α : Type} {g0 : Nat → Option α}
abbrev GL (α : Type) := List ((Nat → Bool) × (Nat → Option α))
def top : Nat → Bool := fun _ => true
theorem gD_skip : ∀ {pre S : GL α} {D : Nat → Bool} {x : Nat}, (∀ p1 q p2, pre = p1 ++ q :: p2 → D (p2.length + S.length) = true → q.1 x = false) → gD g0 (pre ++ S) D x = gD g0 S D x
  | [], _, _, _, _ => rfl
  | q :: pre, S, D, x, h => by
    have h1 := h [] q pre rfl
    have ih := gD_skip (pre := pre) (S := S) (D := D) (x := x) fun p1 q' p2 e => h (q :: p1) q' p2 (by rw [e]; rfl)
    show (if D (pre ++ S).length && q.1 x then q.2 x else gD g0 (pre ++ S) D x) = _
    rw [List.length_append]
    cases hD : D (pre.length + S.length) with
    | false => simpa using ih
    | true => rw [h1 hD]; simpa using ih
theorem gD_top : ∀ {S : GL α} {D : Nat → Bool} {x : Nat}, (∀ p1 q p2, S = p1 ++ q :: p2 → D p2.length = false → q.1 x = false) → gD g0 S D x = gD g0 S top x
  | [], _, _, _ => rfl
  | q :: S, D, x, h => by
    have h1 := h [] q S rfl
    have ih := gD_top (S := S) (D := D) (x := x) fun p1 q' p2 e => h (q :: p1) q' p2 (by rw [e]; rfl)
    show (if D S.length && q.1 x then q.2 x else gD g0 S D x) = (if top S.length && q.1 x then q.2 x else gD g0 S top x)
    cases hD : D S.length with
    | false => rw [h1 hD]; simpa using ih
    | true => simp only [top, Bool.true_and, ih]
theorem gD_more : ∀ {S : GL α} {D D' : Nat → Bool} {j x : Nat}, (∀ i, i ≠ j → D' i = D i) → (∀ p1 q p2, S = p1 ++ q :: p2 → p2.length = j → q.1 x = false) → gD g0 S D' x = gD g0 S D x
  | [], _, _, _, _, _, _ => rfl
  | q :: S, D, D', j, x, hD, h => by
    have h1 := h [] q S rfl
    have ih := gD_more (S := S) hD fun p1 q' p2 e => h (q :: p1) q' p2 (by rw [e]; rfl)
    show (if D' S.length && q.1 x then q.2 x else gD g0 S D' x) = (if D S.length && q.1 x then q.2 x else gD g0 S D x)
    by_cases e : S.length = j
    · rw [h1 e]; simpa using ih
    · rw [hD _ e, ih]
theorem gD_head {q : (Nat → Bool) × (Nat → Option α)} {S : GL α} {D : Nat → Bool} {x : Nat} (hD : D S.length = true) (hq : q.1 x = true) : gD g0 (q :: S) D x = q.2 x := by
  show (if D S.length && q.1 x then q.2 x else gD g0 S D x) = _
  rw [hD, hq]; rfl
theorem gD_pass {q : (Nat → Bool) × (Nat → Option α)} {S : GL α} {D : Nat → Bool} {x : Nat} (hq : q.1 x = false ∨ D S.length = false) : gD g0 (q :: S) D x = gD g0 S D x := by
  show (if D S.length && q.1 x then q.2 x else gD g0 S D x) = _
  rcases hq with h | h <;> rw [h] <;> simp
/-- What stands there came from the beginning, or from one that touches it. -/
theorem gD_from : ∀ {S : GL α} {D : Nat → Bool} {x : Nat} {y : α}, gD g0 S D x = some y → g0 x = some y ∨ ∃ p1 q p2, S = p1 ++ q :: p2 ∧ D p2.length = true ∧ q.1 x = true
  | [], _, _, _, h => .inl h
  | q :: S, D, x, y, h => by
    change (if D S.length && q.1 x then q.2 x else gD g0 S D x) = some y at h
    split at h
    · rename_i hc
      simp only [Bool.and_eq_true] at hc
      exact .inr ⟨[], q, S, rfl, hc.1, hc.2⟩
    · rcases gD_from h with h1 | ⟨p1, q', p2, e, h1, h2⟩
      · exact .inl h1
      · exact .inr ⟨q :: p1, q', p2, by rw [e]; rfl, h1, h2⟩
end

def hL (recs : List Rc) : GL SObj := recs.map fun R => (R.touch, R.H.get)
def tL (recs : List Rc) : GL Value := recs.map fun R => (R.writes, fun _ => some R.v)
theorem map_split {β γ : Type} {f : β → γ} : ∀ {l : List β} {p1 : List γ} {q : γ} {p2 : List γ}, l.map f = p1 ++ q :: p2 → ∃ l1 x l2, l = l1 ++ x :: l2 ∧ p1 = l1.map f ∧ q = f x ∧ p2 = l2.map f := by
  intro l p1 q p2 h
  obtain ⟨l1, l', rfl, h1, h2⟩ := List.map_eq_append_iff.1 h
  obtain ⟨x, l2, rfl, h3, h4⟩ := List.map_eq_cons_iff.1 h2
  exact ⟨l1, x, l2, rfl, h1.symm, h3.symm, h4.symm⟩

theorem touch_iff {R : Rc} {x : Nat} : R.touch x = true ↔ x ∈ R.W ∨ (R.lo ≤ x ∧ x < R.hi) := by
  simp [Rc.touch, inR, Nat.blt_eq]
theorem touch_no {R : Rc} {x : Nat} (h1 : x ∉ R.W) (h2 : ¬ (R.lo ≤ x ∧ x < R.hi)) : R.touch x = false := by
  cases h : R.touch x with
  | false => rfl
  | true => rcases touch_iff.1 h with h | h <;> contradiction
theorem writes_iff {R : Rc} {t : Nat} : R.writes t = true ↔ R.dst = some t := by
  unfold Rc.writes
  cases R.dst with
  | none => simp
  | some d =>
    simp only [Option.some.injEq]
    exact ⟨fun h => Nat.eq_of_beq_eq_true h, fun h => by rw [h]; exact Nat.beq_refl t⟩

/-- Neither comes ahead: R behind Q in the text. -/
structure PairP (R Q : Rc) : Prop where
  w : ∀ x ∈ R.W, x ∉ Q.W
  wr : ∀ x ∈ R.W, ¬ (Q.lo ≤ x ∧ x < Q.hi)
  need : ∀ l, R.need = some l → ∀ x ∈ l, x ∉ Q.W ∧ ¬ (Q.lo ≤ x ∧ x < Q.hi)
  calls : R.need = none → Q.W = []
  need' : ∀ l, Q.need = some l → ∀ x ∈ l, x ∉ R.W ∧ ¬ (R.lo ≤ x ∧ x < R.hi)
  calls' : Q.need = none → R.W = []
  reads : ∀ t ∈ R.reads, Q.writes t = false
  reads' : ∀ t ∈ Q.reads, R.writes t = false
  dst : ∀ d, R.dst = some d → Q.writes d = false
theorem disj_iff {a b : List Nat} : disj a b = true ↔ ∀ x ∈ a, x ∉ b := by simp [disj]
theorem inR_t {lo hi x : Nat} : inR lo hi x = true ↔ lo ≤ x ∧ x < hi := by simp [inR, Nat.blt_eq]
theorem inR_f {lo hi x : Nat} : inR lo hi x = false ↔ ¬ (lo ≤ x ∧ x < hi) := by rw [← inR_t]; cases inR lo hi x <;> simp
theorem pairOk_iff {R Q : Rc} (h : pairOk R Q = true) : PairP R Q := by
  unfold pairOk at h
  simp only [Bool.and_eq_true, disj_iff, List.all_eq_true, Bool.not_eq_true', inR_f] at h
  obtain ⟨⟨⟨⟨⟨⟨h1, h2⟩, h3⟩, h4⟩, h5⟩, h6⟩, h7⟩ := h
  refine ⟨h1, h2, fun l hl x hx => ?_, fun hn => ?_, fun l hl x hx => ?_, fun hn => ?_, h5, h6, fun d hd => ?_⟩
  · rw [hl] at h3
    simp only [Bool.and_eq_true, disj_iff, List.all_eq_true, Bool.not_eq_true', inR_f] at h3
    exact ⟨h3.1 x hx, h3.2 x hx⟩
  · rw [hn] at h3; simpa using h3
  · rw [hl] at h4
    simp only [Bool.and_eq_true, disj_iff, List.all_eq_true, Bool.not_eq_true', inR_f] at h4
    exact ⟨h4.1 x hx, h4.2 x hx⟩
  · rw [hn] at h4; simpa using h4
  · rw [hd] at h7; simpa using h7
theorem allPairs_at : ∀ {recs p1 p2 : List Rc} {R Q : Rc}, allPairs R recs = true → recs = p1 ++ Q :: p2 → R.bef.testBit p2.length = true ∨ PairP R Q
  | _, [], p2, R, Q, h, e => by
    subst e
    simp only [List.nil_append, allPairs, Bool.and_eq_true, Bool.or_eq_true] at h
    exact h.1.imp id pairOk_iff
  | _, q :: p1, p2, R, Q, h, e => by
    subst e
    simp only [List.cons_append, allPairs, Bool.and_eq_true] at h
    exact allPairs_at h.2 rfl
theorem bef_bit : ∀ {recs : List Rc} {j : Nat} {es : List Edge} {s : Nat}, befOf recs j es = some s → ∀ k, s.testBit k = true → ∃ e ∈ es, Region.binds .any e = true ∧ e.on < j ∧ (k = e.on ∨ ∃ R, recs[j - 1 - e.on]? = some R ∧ R.bef.testBit k = true)
  | recs, j, [], s, h, k, hk => by simp [befOf] at h; subst h; simp at hk
  | recs, j, e :: es, s, h, k, hk => by
    unfold befOf at h
    rw [Option.bind_eq_some_iff] at h; obtain ⟨s1, hs1, h⟩ := h
    simp only [cond_eq_ite] at h
    split at h
    · rename_i hb
      split at h
      · rename_i hlt
        rw [Option.bind_eq_some_iff] at h; obtain ⟨R, hR, h⟩ := h
        cases h
        have hlt := blt_lt hlt
        rw [Nat.testBit_or, Nat.testBit_or, Bool.or_eq_true, Bool.or_eq_true] at hk
        rcases hk with (hk | hk) | hk
        · obtain ⟨e', he, h1⟩ := bef_bit hs1 k hk
          exact ⟨e', by simp [he], h1⟩
        · rw [Nat.testBit_two_pow] at hk
          have h2 : e.on = k := by simpa using hk
          exact ⟨e, by simp, hb, hlt, .inl h2.symm⟩
        · exact ⟨e, by simp, hb, hlt, .inr ⟨R, hR, hk⟩⟩
      · cases h
    · cases h
      obtain ⟨e', he, h1⟩ := bef_bit hs1 k hk
      exact ⟨e', by simp [he], h1⟩
theorem bef_lt : ∀ {recs : List Rc} {j : Nat} {es : List Edge} {s : Nat}, befOf recs j es = some s → ∀ e ∈ es, Region.binds .any e = true → e.on < j ∧ s.testBit e.on = true
  | recs, j, [], s, h, e, he, _ => by simp at he
  | recs, j, e0 :: es, s, h, e, he, hb => by
    unfold befOf at h
    rw [Option.bind_eq_some_iff] at h; obtain ⟨s1, hs1, h⟩ := h
    simp only [cond_eq_ite] at h
    split at h
    · split at h
      · rename_i hlt
        rw [Option.bind_eq_some_iff] at h; obtain ⟨R, hR, h⟩ := h
        cases h
        rcases List.mem_cons.1 he with rfl | he
        · exact ⟨blt_lt hlt, by simp [Nat.testBit_or, Nat.testBit_two_pow]⟩
        · have := bef_lt hs1 e he hb
          exact ⟨this.1, by simp [Nat.testBit_or, this.2]⟩
      · cases h
    · rename_i hnb
      cases h
      rcases List.mem_cons.1 he with rfl | he
      · exact absurd hb hnb
      · exact bef_lt hs1 e he hb
theorem rangeL_mem : ∀ {n lo x : Nat}, x ∈ rangeL lo n ↔ lo ≤ x ∧ x < lo + n
  | 0, lo, x => by simp [rangeL]
  | n + 1, lo, x => by
    simp only [rangeL, List.mem_cons, rangeL_mem (n := n)]
    omega
theorem strange_at : ∀ {recs p1 p2 : List Rc} {Q : Rc} {bef x : Nat}, recs = p1 ++ Q :: p2 → bef.testBit p2.length = false → Q.lo ≤ x → x < Q.hi → x ∈ strange bef recs
  | _, [], p2, Q, bef, x, e, hb, h1, h2 => by
    subst e
    simp only [List.nil_append, strange, cond_eq_ite, hb]
    simp only [Bool.false_eq_true, if_false, List.mem_append, rangeL_mem]
    left; omega
  | _, q :: p1, p2, Q, bef, x, e, hb, h1, h2 => by
    subst e
    have ih := strange_at (recs := p1 ++ Q :: p2) rfl hb h1 h2
    simp only [List.cons_append, strange, cond_eq_ite]
    split
    · exact ih
    · exact List.mem_append_right _ ih
theorem strip_get : ∀ {l : List Nat} {H : Tr SObj} {x : Nat} {o : SObj}, (stripH H l).get x = some o → H.get x = some o ∧ x ∉ l
  | [], H, x, o, h => ⟨h, by simp⟩
  | i :: l, H, x, o, h => by
    simp only [stripH, Tr.get_put] at h
    split at h
    · cases h
    · rename_i hne
      obtain ⟨h1, h2⟩ := strip_get h
      exact ⟨h1, by simp [hne, h2]⟩
theorem restrict_get : ∀ {l : List Nat} {H : Tr SObj} {x : Nat} {o : SObj}, (restrictH H l).get x = some o → H.get x = some o ∧ x ∈ l
  | [], H, x, o, h => by simp [restrictH, Tr.get_nil] at h
  | i :: l, H, x, o, h => by
    unfold restrictH at h
    split at h
    · rename_i o' ho
      rw [Tr.get_put] at h
      split at h
      · rename_i e
        cases h
        exact ⟨by rw [e]; exact ho, by simp [e]⟩
      · obtain ⟨h1, h2⟩ := restrict_get h
        exact ⟨h1, by simp [h2]⟩
    · obtain ⟨h1, h2⟩ := restrict_get h
      exact ⟨h1, by simp [h2]⟩
theorem apply_get : ∀ {l : List Nat} {H H' : Tr SObj} {x : Nat}, (applyH H H' l).get x = if x ∈ l then H'.get x else H.get x
  | [], H, H', x => by simp [applyH]
  | i :: l, H, H', x => by
    simp only [applyH, Tr.get_put, apply_get (l := l)]
    by_cases e : x = i
    · subst e; simp
    · simp [e]
theorem restrictT_get : ∀ {l : List Tmp} {τ : Tr Value} {t : Nat}, (restrictT τ l).get t = if t ∈ l then some ((τ.get t).getD undef) else none
  | [], τ, t => by simp [restrictT, Tr.get_nil]
  | i :: l, τ, t => by
    simp only [restrictT, Tr.get_put, restrictT_get (l := l)]
    by_cases e : t = i
    · subst e; simp
    · simp [e]

section
variable (P : Program) (G : Cx) (rec : Task → Option (List Res)) (all : List Oper) (st0 : St) (fr0 : Fr)
def nOf : List Rc → Nat
  | [] => st0.n
  | R :: _ => R.hi
def hRun (recs : List Rc) : Nat → Option SObj := gD st0.H.get (hL recs) top
def tRun (recs : List Rc) : Nat → Option Value := gD fr0.τ.get (tL recs) top
structure OneOk (o : Oper) (R : Rc) (rest : List Rc) : Prop where
  dst : R.dst = o.dst
  reads : R.reads = readsOf all o
  bef : befOf rest rest.length o.after.toList = some R.bef
  pairs : allPairs R rest = true
  lo : R.lo = nOf st0 rest
  le : R.lo ≤ R.hi
  old : ∀ x ∈ R.W, x < R.lo
  fits : ∀ d, R.dst = some d → d < fr0.N
  did : ∃ τ : Tr Value, (∀ t, (τ.get t).getD undef = (tRun fr0 rest t).getD undef) ∧
    ((wantedP all (restrictT τ R.reads) o = false ∧ R.v = undef ∧ R.hi = R.lo ∧ R.W = [] ∧ R.H = .nil) ∨
     (wantedP all (restrictT τ R.reads) o = true ∧ ∃ (H : Tr SObj) (st' : St), opP P G rec (restrictT τ R.reads) o { H, n := R.lo, W := [] } = some [(R.v, st')] ∧ R.hi = st'.n ∧ R.H = st'.H ∧
       (∀ x ∈ st'.W, x < st'.n) ∧ (∀ x, x ∈ R.W ↔ x ∈ st'.W ∧ x < R.lo) ∧
       (∀ x ob, H.get x = some ob → hRun st0 rest x = some ob ∧ (∀ l, R.need = some l → x ∈ l) ∧ (R.need = none → x ∉ strange R.bef rest))))
def GoodR : List Rc → Prop
  | [] => True
  | R :: rest => GoodR rest ∧ ∃ o, all[rest.length]? = some o ∧ OneOk P G rec all st0 fr0 o R rest
end
variable {P : Program} {G : Cx} {rec : Task → Option (List Res)} {all : List Oper} {st0 : St} {fr0 : Fr}

theorem GoodR.at_ : ∀ {p1 rest : List Rc} {R : Rc}, GoodR P G rec all st0 fr0 (p1 ++ R :: rest) → GoodR P G rec all st0 fr0 (R :: rest)
  | [], _, _, h => h
  | _ :: p1, _, _, h => GoodR.at_ (p1 := p1) h.1
/-- The state between. -/
structure Mid (recs : List Rc) (fr : Fr) (st : St) : Prop where
  good : GoodR P G rec all st0 fr0 recs
  n : st.n = nOf st0 recs
  h : ∀ x, st.H.get x = hRun st0 recs x
  t : ∀ t, (fr.τ.get t).getD undef = (tRun fr0 recs t).getD undef
  N : fr.N = fr0.N
  ds : fr.ds = fr0.ds
  w0 : ∀ x ∈ st0.W, x ∈ st.W
  w : ∀ R ∈ recs, ∀ x ∈ R.W, x ∈ st.W
  wf : ∀ x ∈ st.W, x ∈ st0.W ∨ (∃ R ∈ recs, x ∈ R.W) ∨ st0.n ≤ x
  le : st0.n ≤ nOf st0 recs
theorem mid_one {recs : List Rc} {fr fr' : Fr} {st st' : St} {R : Rc} {o : Oper} (hM : Mid (P := P) (G := G) (rec := rec) (all := all) (st0 := st0) (fr0 := fr0) recs fr st) (ho : all[recs.length]? = some o)
    (h : drawOne P G rec all recs o fr st = some (R, fr', st')) : Mid (P := P) (G := G) (rec := rec) (all := all) (st0 := st0) (fr0 := fr0) (R :: recs) fr' st' := by
  unfold drawOne at h
  rw [Option.bind_eq_some_iff] at h; obtain ⟨bef, hbef, h⟩ := h
  dsimp only at h
  rw [Option.bind_eq_some_iff] at h; obtain ⟨⟨v, st1, need⟩, hdid, h⟩ := h
  dsimp only at h
  obtain ⟨hc, h⟩ := cond_none h
  rw [Option.bind_eq_some_iff] at h; obtain ⟨fr1, hput, h⟩ := h
  simp only [Option.some.injEq, Prod.mk.injEq] at h
  obtain ⟨hR, rfl, rfl⟩ := h
  simp only [Bool.and_eq_true, List.all_eq_true] at hc
  obtain ⟨⟨hpairs, hW⟩, hle⟩ := hc
  rw [hR] at hpairs
  have d1 : R.dst = o.dst := by rw [← hR]
  have d2 : R.reads = readsOf all o := by rw [← hR]
  have d3 : R.bef = bef := by rw [← hR]
  have d4 : R.lo = st.n := by rw [← hR]
  have d5 : R.hi = st1.n := by rw [← hR]
  have d6 : R.W = st1.W.filter (fun x => Nat.blt x st.n) := by rw [← hR]
  have d7 : R.need = need := by rw [← hR]
  have d8 : R.H = st1.H := by rw [← hR]
  have d9 : R.v = v := by rw [← hR]
  clear hR
  have hle := Nat.le_of_ble_eq_true hle
  have hW : ∀ x ∈ st1.W, x < st1.n := fun x hx => blt_lt (hW x hx)
  have hfits : ∀ d, o.dst = some d → d < fr0.N ∧ fr1 = { fr with τ := fr.τ.put d (some v) } := by
    intro d hd
    rw [hd] at hput
    obtain ⟨hb, hput⟩ := cond_none hput
    cases hput
    exact ⟨by rw [← hM.N]; exact blt_lt hb, rfl⟩
  have hfr : o.dst = none → fr1 = fr := by
    intro hd
    rw [hd] at hput
    cases hput
    rfl
  have memW : ∀ x, x ∈ R.W ↔ x ∈ st1.W ∧ x < st.n := fun x => by rw [d6]; simp [List.mem_filter, Nat.blt_eq]
  have hn := hM.n
  have hl := hM.le
  refine ⟨⟨hM.good, o, ho, ⟨d1, d2, by rw [hbef, d3], hpairs, by rw [d4, hM.n], by rw [d4, d5]; exact hle, fun x hx => by rw [d4]; exact ((memW x).1 hx).2, fun d hd => (hfits d (d1 ▸ hd)).1, fr.τ, hM.t, ?_⟩⟩, d5.symm, ?_, ?_, ?_, ?_, ?_, ?_, ?_, ?_⟩
  · rw [d2, d3, d4, d5, d7, d8, d9]
    split at hdid
    · rename_i hw
      cases hdid
      refine .inl ⟨hw, rfl, rfl, ?_, rfl⟩
      apply List.eq_nil_iff_forall_not_mem.2
      intro x hx
      have := ((memW x).1 hx).1
      simp at this
    · rename_i hw
      refine .inr ⟨hw, ?_⟩
      simp only [cond_eq_ite] at hdid
      split at hdid
      · rw [Option.bind_eq_some_iff] at hdid; obtain ⟨⟨v1, st2⟩, hop, hdid⟩ := hdid
        cases hdid
        refine ⟨_, _, det_some hop, rfl, rfl, hW, memW, fun x ob hx => ?_⟩
        obtain ⟨h1, h2⟩ := strip_get hx
        refine ⟨by rw [← hM.h]; exact h1, fun l hl => ?_, fun _ => h2⟩
        cases hl
      · rw [Option.bind_eq_some_iff] at hdid; obtain ⟨⟨v1, st2⟩, hop, hdid⟩ := hdid
        cases hdid
        refine ⟨_, _, det_some hop, rfl, rfl, hW, memW, fun x ob hx => ?_⟩
        obtain ⟨h1, h2⟩ := restrict_get hx
        refine ⟨by rw [← hM.h]; exact h1, fun l hl => ?_, fun hn => ?_⟩
        · cases hl; exact h2
        · cases hn
  · intro x
    simp only [apply_get]
    rw [← d6]
    have hmem : x ∈ (R.W ++ rangeL st.n (st1.n - st.n)) ↔ (x ∈ R.W) ∨ (R.lo ≤ x ∧ x < R.hi) := by
      rw [List.mem_append, rangeL_mem, d4, d5]
      constructor <;> rintro (h | h) <;> first | exact .inl h | (right; omega)
    unfold hRun
    show _ = gD st0.H.get ((R.touch, R.H.get) :: hL recs) top x
    by_cases hx : x ∈ (R.W ++ rangeL st.n (st1.n - st.n))
    · rw [if_pos hx, gD_head rfl (touch_iff.2 (hmem.1 hx)), d8]
    · rw [if_neg hx, gD_pass (.inl (touch_no (fun h => hx (hmem.2 (.inl h))) (fun h => hx (hmem.2 (.inr h))))), hM.h]
      rfl
  · intro t
    unfold tRun
    show _ = (gD fr0.τ.get ((R.writes, fun _ => some R.v) :: tL recs) top t).getD undef
    cases hq : R.writes t with
    | true =>
      have hd := writes_iff.1 hq
      rw [d1] at hd
      rw [gD_head rfl hq, (hfits t hd).2, d9]
      simp only [Tr.get_put, if_true]
    | false =>
      rw [gD_pass (.inl hq)]
      cases hd : o.dst with
      | none => rw [hfr hd, hM.t]; rfl
      | some d =>
        have hne : t ≠ d := by
          rintro rfl
          have := writes_iff.2 (d1.trans hd)
          rw [hq] at this
          cases this
        rw [(hfits d hd).2]
        simp only [Tr.get_put, if_neg hne]
        rw [hM.t]; rfl
  · cases hd : o.dst with
    | none => rw [hfr hd]; exact hM.N
    | some d => rw [(hfits d hd).2]; exact hM.N
  · cases hd : o.dst with
    | none => rw [hfr hd]; exact hM.ds
    | some d => rw [(hfits d hd).2]; exact hM.ds
  · intro x hx; exact List.mem_append_right _ (hM.w0 x hx)
  · intro R' hR' x hx
    rcases List.mem_cons.1 hR' with rfl | hR'
    · exact List.mem_append_left _ ((memW x).1 hx).1
    · exact List.mem_append_right _ (hM.w R' hR' x hx)
  · intro x hx
    rcases List.mem_append.1 hx with hx | hx
    · by_cases hlt : x < st.n
      · exact .inr (.inl ⟨_, List.mem_cons_self .., (memW x).2 ⟨hx, hlt⟩⟩)
      · exact .inr (.inr (by omega))
    · rcases hM.wf x hx with h | ⟨R', hR', h⟩ | h
      · exact .inl h
      · exact .inr (.inl ⟨R', List.mem_cons_of_mem _ hR', h⟩)
      · exact .inr (.inr h)
  · show st0.n ≤ R.hi
    rw [d5]
    omega
theorem draw_mid : ∀ {l : List Oper} {done : List Oper} {recs recs' : List Rc} {fr fr' : Fr} {st st' : St}, all = done ++ l → recs.length = done.length → Mid (P := P) (G := G) (rec := rec) (all := all) (st0 := st0) (fr0 := fr0) recs fr st →
    drawP P G rec all l recs fr st = some (recs', fr', st') → Mid (P := P) (G := G) (rec := rec) (all := all) (st0 := st0) (fr0 := fr0) recs' fr' st' ∧ recs'.length = all.length
  | [], done, recs, recs', fr, fr', st, st', e, hl, hM, h => by
    simp [drawP] at h
    obtain ⟨rfl, rfl, rfl⟩ := h
    exact ⟨hM, by rw [hl, e]; simp⟩
  | o :: l, done, recs, recs', fr, fr', st, st', e, hl, hM, h => by
    unfold drawP at h
    rw [Option.bind_eq_some_iff] at h; obtain ⟨⟨R, fr1, st1⟩, hone, h⟩ := h
    have ho : all[recs.length]? = some o := by rw [hl, e]; simp
    exact draw_mid (done := done ++ [o]) (by rw [e]; simp) (by simp [hl]) (mid_one hM ho hone) h
/-! ### Any order -/
theorem GoodR.suffix : ∀ {p1 S : List Rc}, GoodR P G rec all st0 fr0 (p1 ++ S) → GoodR P G rec all st0 fr0 S
  | [], _, h => h
  | _ :: p1, _, h => GoodR.suffix (p1 := p1) h.1
theorem nOf_le : ∀ {p1 S : List Rc}, GoodR P G rec all st0 fr0 (p1 ++ S) → nOf st0 S ≤ nOf st0 (p1 ++ S)
  | [], _, _ => Nat.le_refl _
  | q :: p1, S, h => by
    have ih := nOf_le (p1 := p1) h.1
    obtain ⟨_, o, _, ho⟩ := h
    have h1 := ho.lo
    have h2 := ho.le
    show nOf st0 S ≤ q.hi
    have : nOf st0 (p1 ++ S) = q.lo := h1.symm
    omega
/-- Two records, Q behind R. -/
theorem hi_le_lo {p1 p2 rest : List Rc} {Q R : Rc} (h : GoodR P G rec all st0 fr0 (p1 ++ Q :: (p2 ++ R :: rest))) : R.hi ≤ Q.lo := by
  obtain ⟨hg, o, _, ho⟩ := GoodR.at_ h
  have := nOf_le (p1 := p2) (S := R :: rest) hg
  rw [← ho.lo] at this
  exact this
theorem st0_le {p1 S : List Rc} (h : GoodR P G rec all st0 fr0 (p1 ++ S)) : st0.n ≤ nOf st0 S := by
  have := nOf_le (p1 := S) (S := []) (by simpa using h.suffix)
  simpa [nOf] using this
theorem split_len {recs : List Rc} {j : Nat} (h : j < recs.length) : ∃ pre R rest, recs = pre ++ R :: rest ∧ rest.length = j := by
  have hk : recs.length - 1 - j < recs.length := by omega
  refine ⟨recs.take (recs.length - 1 - j), recs[recs.length - 1 - j], recs.drop (recs.length - 1 - j + 1), ?_, by simp; omega⟩
  rw [← List.drop_eq_getElem_cons hk, List.take_append_drop]
theorem hL_app {a b : List Rc} : hL (a ++ b) = hL a ++ hL b := by simp [hL]
theorem tL_app {a b : List Rc} : tL (a ++ b) = tL a ++ tL b := by simp [tL]

structure Inv (recs : List Rc) (r0 : Ren) (w0 : World) (a0 : Act) (D : Nat → Bool) (r : Ren) (w : World) (a : Act) : Prop where
  dc : ∀ p1 R rest, recs = p1 ++ R :: rest → D rest.length = true → ∀ k, R.bef.testBit k = true → D k = true
  rel : RelF G r (gD st0.H.get (hL recs) D) w
  le : r0.le r
  new : ∀ i, r0 i = none → r i ≠ none → ∃ p1 R rest, recs = p1 ++ R :: rest ∧ D rest.length = true ∧ R.lo ≤ i ∧ i < R.hi
  fresh : ∀ i b k, r0 i = none → r i = some (b, k) → w0.heap.size ≤ b ∨ ∃ R ∈ recs, ∃ j k', j ∈ R.W ∧ r0 j = some (b, k')
  frame : ∀ b, b < w0.heap.size → (∀ R ∈ recs, ∀ i k, i ∈ R.W → r0 i ≠ some (b, k)) → w.heap[b]? = w0.heap[b]?
  live : ∀ p1 R rest, recs = p1 ++ R :: rest → D rest.length = true → ∀ x ∈ R.W, (∃ o, st0.H.get x = some o) ∨ st0.n ≤ x
  size : w0.heap.size ≤ w.heap.size
  os : w.os = w0.os
  tape : w.tape = w0.tape
  output : w.output = w0.output
  tsz : a.tmps.size = fr0.N
  tmps : ∀ t, VR r ((gD fr0.τ.get (tL recs) D t).getD undef) (a.tmps.getD t undef)
  defers : a.defers = a0.defers

/-- A frame cut down to some of its temporaries. -/
def cut (a : Act) (N : Nat) (l : List Tmp) : Act := { tmps := (Array.range N).map fun t => if t ∈ l then a.tmps.getD t undef else undef, defers := a.defers }
theorem cut_at {a : Act} {N : Nat} {l : List Tmp} (hN : a.tmps.size = N) (t : Nat) : (cut a N l).tmps.getD t undef = if t ∈ l then a.tmps.getD t undef else undef := by
  unfold cut
  by_cases h : t < N
  · simp [Array.getD_eq_getD_getElem?, h]
  · have e : a.tmps.getD t undef = undef := by simp [Array.getD_eq_getD_getElem?, show ¬ t < a.tmps.size by omega]
    rw [e]
    simp [Array.getD_eq_getD_getElem?, h]
theorem cut_q {a : Act} {N : Nat} {l : List Tmp} (hN : a.tmps.size = N) {t : Nat} (ht : t ∈ l) : (cut a N l).tmps[t]? = a.tmps[t]? := by
  unfold cut
  by_cases h : t < N
  · have h2 : t < a.tmps.size := by omega
    simp [h, h2, ht, Array.getD_eq_getD_getElem?]
  · rw [Array.getElem?_eq_none (by simp; omega), Array.getElem?_eq_none (by omega)]

/-- One more of them is done. -/
theorem inv_step {recs : List Rc} {r0 r r' : Ren} {w0 w w' : World} {a0 a : Act} {D : Nat → Bool} {pre rest : List Rc} {R : Rc} {o : Oper} {v' : Value} {st1 st2 : St}
    (hg : GoodR P G rec all st0 fr0 recs) (e : recs = pre ++ R :: rest) (hone : OneOk P G rec all st0 fr0 o R rest) (hI : Inv (G := G) (st0 := st0) (fr0 := fr0) recs r0 w0 a0 D r w a) (hDj : D rest.length = false) (hbef : ∀ k, R.bef.testBit k = true → D k = true)
    (hR0 : Rel G r0 st0 w0)
    (hsub : ∀ x ob, st1.H.get x = some ob → gD st0.H.get (hL recs) D x = some ob)
    (hsubl : ∀ x ob, st1.H.get x = some ob → x < st0.n → (∃ ob, st0.H.get x = some ob))
    (hn1 : st1.n = R.lo) (hW1 : st1.W = []) (hs : Step G r st1 w r' st2 w') (hn2 : R.hi = st2.n) (hH : R.H = st2.H) (hWlt : ∀ x ∈ st2.W, x < st2.n) (hW : ∀ x, x ∈ R.W ↔ x ∈ st2.W ∧ x < R.lo)
    (hfr : Fresh r R.lo R.hi) (hv : VR r' R.v v') (hpre : ∀ p1 Q p2, pre = p1 ++ Q :: p2 → D (p2.length + (rest.length + 1)) = true → PairP Q R) :
    Inv (G := G) (st0 := st0) (fr0 := fr0) recs r0 w0 a0 (fun i => if i = rest.length then true else D i) r' w' (a.put o.dst v') := by
  have hlo0 : st0.n ≤ R.lo := by
    rw [hone.lo]
    have hg2 := hg
    rw [e] at hg2
    exact st0_le (p1 := pre ++ [R]) (S := rest) (by simpa using hg2)
  -- the heap behind
  have hheap : ∀ x, gD st0.H.get (hL recs) (fun i => if i = rest.length then true else D i) x = if R.touch x = true then st2.H.get x else gD st0.H.get (hL recs) D x := by
    intro x
    cases ht : R.touch x with
    | true =>
      rw [if_pos rfl, e, hL_app, gD_skip]
      · show gD st0.H.get ((R.touch, R.H.get) :: hL rest) _ x = _
        rw [gD_head (by simp [hL]) ht, hH]
      · intro p1 q p2 e2 hD
        obtain ⟨l1, Q, l2, e3, _, rfl, rfl⟩ := map_split (f := fun R : Rc => (R.touch, R.H.get)) e2
        have hlen : (hL (R :: rest)).length = rest.length + 1 := by simp [hL]
        rw [hlen, List.length_map] at hD
        have hD : D (l2.length + (rest.length + 1)) = true := by
          rw [if_neg (by omega)] at hD
          exact hD
        have hp := hpre l1 Q l2 e3 hD
        have hle := hi_le_lo (p1 := l1) (p2 := l2) (rest := rest) (Q := Q) (R := R) (by rw [e, e3] at hg; simpa using hg)
        refine touch_no ?_ ?_
        · intro hx
          rcases touch_iff.1 ht with h1 | h1
          · exact hp.w x hx h1
          · exact hp.wr x hx h1
        · rintro ⟨h1, h2⟩
          rcases touch_iff.1 ht with h3 | h3
          · have := hone.old x h3
            have := hone.le
            omega
          · omega
    | false =>
      rw [if_neg (by simp)]
      refine gD_more (j := rest.length) (fun i hi => if_neg hi) ?_
      intro p1 q p2 e2 hl
      obtain ⟨l1, Q, l2, e3, _, rfl, rfl⟩ := map_split (f := fun R : Rc => (R.touch, R.H.get)) e2
      rw [List.length_map] at hl
      rw [e] at e3
      have := List.append_inj' e3 (by simp [hl])
      have := List.cons.inj this.2
      rw [← this.1]
      exact ht
  have htmp : ∀ t, gD fr0.τ.get (tL recs) (fun i => if i = rest.length then true else D i) t = if R.writes t = true then some R.v else gD fr0.τ.get (tL recs) D t := by
    intro t
    cases ht : R.writes t with
    | true =>
      rw [if_pos rfl, e, tL_app, gD_skip]
      · show gD fr0.τ.get ((R.writes, fun _ => some R.v) :: tL rest) _ t = _
        rw [gD_head (by simp [tL]) ht]
      · intro p1 q p2 e2 hD
        obtain ⟨l1, Q, l2, e3, _, rfl, rfl⟩ := map_split (f := fun R : Rc => (R.writes, fun _ => some R.v)) e2
        have hlen : (tL (R :: rest)).length = rest.length + 1 := by simp [tL]
        rw [hlen, List.length_map] at hD
        have hD : D (l2.length + (rest.length + 1)) = true := by
          rw [if_neg (by omega)] at hD
          exact hD
        have hp := hpre l1 Q l2 e3 hD
        cases hq : Q.writes t with
        | false => exact hq
        | true =>
          have := hp.dst t (writes_iff.1 hq)
          rw [ht] at this
          cases this
    | false =>
      rw [if_neg (by simp)]
      refine gD_more (j := rest.length) (fun i hi => if_neg hi) ?_
      intro p1 q p2 e2 hl
      obtain ⟨l1, Q, l2, e3, _, rfl, rfl⟩ := map_split (f := fun R : Rc => (R.writes, fun _ => some R.v)) e2
      rw [List.length_map] at hl
      rw [e] at e3
      have := List.append_inj' e3 (by simp [hl])
      have := List.cons.inj this.2
      rw [← this.1]
      exact ht
  -- what the step turned was alive, and is touched
  have turned : ∀ x, x ∈ st2.W → R.touch x = true ∧ ((∃ ob, gD st0.H.get (hL recs) D x = some ob) ∨ R.lo ≤ x) := by
    intro x hx
    refine ⟨touch_iff.2 ?_, ?_⟩
    · by_cases h1 : x < R.lo
      · exact .inl ((hW x).2 ⟨hx, h1⟩)
      · exact .inr ⟨by omega, by rw [hn2]; exact hWlt x hx⟩
    · rcases hs.wlive x hx with h1 | ⟨ob, h1⟩ | h1
      · rw [hW1] at h1; simp at h1
      · exact .inl ⟨ob, hsub x ob h1⟩
      · exact .inr (by omega)
  have keep : ∀ x ob b k, R.touch x = false → gD st0.H.get (hL recs) D x = some ob → r x = some (b, k) → w'.heap[b]? = w.heap[b]? := by
    intro x ob b k ht hx hr
    obtain ⟨b2, k2, hr2, hob⟩ := hI.rel.obj x ob hx
    rw [hr] at hr2
    cases hr2
    refine hs.frame b hob.lt fun i k' hi hri => ?_
    obtain ⟨ht2, h1 | h1⟩ := turned i hi
    · obtain ⟨ob2, h1⟩ := h1
      have := hI.rel.inj i x _ _ b k' k h1 hx hri hr
      rw [this, ht] at ht2
      cases ht2
    · rw [hfr i h1 (by rw [hn2]; exact hWlt i hi)] at hri
      cases hri
  refine ⟨?_, ⟨?_, ?_, ?_⟩, Ren.le_trans hI.le hs.le, ?_, ?_, ?_, ?_, Nat.le_trans hI.size hs.size, hs.os.trans hI.os, hs.tape.trans hI.tape, hs.output.trans hI.output, ?_, ?_, ?_⟩
  · intro p1 R' rest' e' hD k hk
    by_cases hl : rest'.length = rest.length
    · rw [e] at e'
      have h1 := List.append_inj' e' (by simp [hl])
      have h2 := List.cons.inj h1.2
      rw [← h2.1] at hk
      (try dsimp only)
      split
      · rfl
      · exact hbef k hk
    · (try dsimp only at hD ⊢)
      rw [if_neg hl] at hD
      split
      · rfl
      · exact hI.dc p1 R' rest' e' hD k hk
  · intro x ob hx
    rw [hheap] at hx
    split at hx
    · exact hs.rel.obj x ob hx
    · rename_i ht
      obtain ⟨b, k, hr, hob⟩ := hI.rel.obj x ob hx
      exact ⟨b, k, hs.le _ _ hr, hob.keep hs.le (keep x ob b k (by simpa using ht) hx hr)⟩
  · intro x y ox oy b kx ky hx hy hrx hry
    rw [hheap] at hx hy
    have mix : ∀ x y ox oy kx ky, R.touch x = true → st2.H.get x = some ox → R.touch y = false → gD st0.H.get (hL recs) D y = some oy → r' x = some (b, kx) → r' y = some (b, ky) → False := by
      intro x y ox oy kx ky htx hx hty hy hrx hry
      obtain ⟨b2, k2, hr2, hob⟩ := hI.rel.obj y oy hy
      have := hs.le _ _ hr2
      rw [hry] at this
      cases this
      cases hrx0 : r x with
      | some z =>
        have := hs.le _ _ hrx0
        rw [hrx] at this
        cases this
        rcases hs.dies x ox hx with ⟨ob, h1⟩ | h1
        · have := hI.rel.inj x y _ _ b kx ky (hsub x ob h1) hy hrx0 hr2
          rw [this, hty] at htx
          cases htx
        · have h3 : x < R.hi := by
            rcases touch_iff.1 htx with h4 | h4
            · have := hone.old x h4; have := hone.le; omega
            · exact h4.2
          rw [hfr x (by omega) h3] at hrx0
          cases hrx0
      | none =>
        rcases hs.fresh x b kx hrx0 hrx with h1 | ⟨j, k', hj, hrj⟩
        · have := hob.lt; omega
        · obtain ⟨ht2, h2 | h2⟩ := turned j hj
          · obtain ⟨ob2, h2⟩ := h2
            have := hI.rel.inj j y _ _ b k' ky h2 hy hrj hr2
            rw [this, hty] at ht2
            cases ht2
          · rw [hfr j h2 (by rw [hn2]; exact hWlt j hj)] at hrj
            cases hrj
    split at hx <;> split at hy
    · exact hs.rel.inj x y ox oy b kx ky hx hy hrx hry
    · rename_i h1 h2; exact (mix x y ox oy kx ky h1 hx (by simpa using h2) hy hrx hry).elim
    · rename_i h1 h2; exact (mix y x oy ox ky kx h2 hy (by simpa using h1) hx hry hrx).elim
    · obtain ⟨b1, k1, hr1, _⟩ := hI.rel.obj x ox hx
      obtain ⟨b2, k2, hr2, _⟩ := hI.rel.obj y oy hy
      have h1 := hs.le _ _ hr1
      rw [hrx] at h1
      cases h1
      have h2 := hs.le _ _ hr2
      rw [hry] at h2
      cases h2
      exact hI.rel.inj x y _ _ b kx ky hx hy hr1 hr2
  · intro g hg'
    obtain ⟨k, hk⟩ := hI.rel.glob g hg'
    exact ⟨k, hs.le _ _ hk⟩
  · intro i hi hi2
    cases hri : r i with
    | none =>
      have := hs.new i hri hi2
      exact ⟨pre, R, rest, e, by simp, by omega, by omega⟩
    | some z =>
      obtain ⟨p1, R', rest', e', hD, h1, h2⟩ := hI.new i hi (by simp [hri])
      exact ⟨p1, R', rest', e', by (try dsimp only); split <;> first | rfl | exact hD, h1, h2⟩
  · intro i b k hi hi2
    have memR : R ∈ recs := by rw [e]; simp
    cases hri : r i with
    | some z =>
      have := hs.le _ _ hri
      rw [hi2] at this
      cases this
      exact hI.fresh i b k hi hri
    | none =>
      rcases hs.fresh i b k hri hi2 with h1 | ⟨j, k', hj, hrj⟩
      · have := hI.size; exact .inl (by omega)
      · cases hj0 : r0 j with
        | some z =>
          have := hI.le _ _ hj0
          rw [hrj] at this
          cases this
          refine .inr ⟨R, memR, j, k', (hW j).2 ⟨hj, ?_⟩, hj0⟩
          rcases Nat.lt_or_ge j R.lo with h2 | h2
          · exact h2
          · rw [hfr j h2 (by rw [hn2]; exact hWlt j hj)] at hrj; cases hrj
        | none => exact hI.fresh j b k' hj0 hrj
  · intro b hb hno
    have memR : R ∈ recs := by rw [e]; simp
    have e1 := hI.frame b hb hno
    refine (hs.frame b (Nat.lt_of_lt_of_le hb hI.size) fun i k hi hri => ?_).trans e1
    have hlt : i < R.lo := by
      rcases Nat.lt_or_ge i R.lo with h2 | h2
      · exact h2
      · rw [hfr i h2 (by rw [hn2]; exact hWlt i hi)] at hri; cases hri
    cases hi0 : r0 i with
    | some z =>
      have := hI.le _ _ hi0
      rw [hri] at this
      cases this
      exact hno R memR i k ((hW i).2 ⟨hi, hlt⟩) hi0
    | none =>
      rcases hI.fresh i b k hi0 hri with h1 | ⟨R', hR', j, k', hj, hrj⟩
      · omega
      · exact hno R' hR' j k' hj hrj
  · intro p1 R' rest' e' hD x hx
    by_cases hl : rest'.length = rest.length
    · rw [e] at e'
      have h1 := List.append_inj' e' (by simp [hl])
      have h2 := List.cons.inj h1.2
      rw [← h2.1] at hx
      have hx2 := (hW x).1 hx
      rcases Nat.lt_or_ge x st0.n with h3 | h3
      · rcases hs.wlive x hx2.1 with h4 | ⟨ob, h4⟩ | h4
        · rw [hW1] at h4; simp at h4
        · exact .inl (hsubl x ob h4 h3)
        · omega
      · exact .inr h3
    · (try dsimp only at hD)
      rw [if_neg hl] at hD
      exact hI.live p1 R' rest' e' hD x hx
  · have : (a.put o.dst v').tmps.size = a.tmps.size := by
      cases o.dst <;> simp [Act.put]
    rw [this, hI.tsz]
  · intro t
    rw [htmp]
    have hd := hone.dst
    cases hw : R.writes t with
    | true =>
      rw [if_pos rfl]
      have h1 := writes_iff.1 hw
      have h2 : t < a.tmps.size := by rw [hI.tsz]; exact hone.fits t h1
      rw [hd] at h1
      have e1 : (a.put o.dst v').tmps.getD t undef = v' := by
        rw [h1]
        simp [Act.put, Array.getD_eq_getD_getElem?, h2]
      rw [e1]
      exact hv
    | false =>
      rw [if_neg (by simp)]
      have e1 : (a.put o.dst v').tmps.getD t undef = a.tmps.getD t undef := by
        cases hdd : o.dst with
        | none => rfl
        | some d =>
          have hne : d ≠ t := by
            rintro rfl
            have := writes_iff.2 (hd.trans hdd)
            rw [hw] at this
            cases this
          simp only [Act.put]
          rw [Array.getD_eq_getD_getElem?, Array.getD_eq_getD_getElem?, Array.getElem?_setIfInBounds_ne hne]
      rw [e1]
      exact (hI.tmps t).mono hs.le
  · have : (a.put o.dst v').defers = a.defers := by cases o.dst <;> rfl
    rw [this, hI.defers]

theorem defer_sel {τ : Tr Value} {o : Oper} {st : St} {x : List (Value × St)} (h : opP P G rec τ o st = some x) : (∀ cs b, o.op ≠ .select cs b) ∧ ∀ c, o.op ≠ .defer c := by
  constructor
  · intro cs b e
    have : opP P G rec τ o st = none := by
      unfold opP
      rw [e]
      simp only [op1, e]
      simp [lift1, plainP, e]
    rw [this] at h
    cases h
  · intro c e
    rw [defer_no e] at h
    cases h

set_option maxHeartbeats 1000000 in
theorem draw_any {recs : List Rc} {r0 : Ren} {w0 : World} {a0 : Act} {fr' : Fr} {st' : St} {ops : Array Oper} {ro : Option Nat} {m : Nat} {Q : Exit → Act → World → Prop} (hrec : RecOk P G rec) (hN : Kn P G) (hall : all = ops.toList)
    (hM : Mid (P := P) (G := G) (rec := rec) (all := all) (st0 := st0) (fr0 := fr0) recs fr' st') (hlen : recs.length = all.length) (hR0 : Rel G r0 st0 w0) (hf : Fresh r0 st0.n st'.n)
    (hQ : ∀ r w a, Inv (G := G) (st0 := st0) (fr0 := fr0) recs r0 w0 a0 top r w a → Q .normal a w) :
    ∀ (fuel : Nat) (listed : Array Bool) (r : Ren) (w : World) (a : Act), listed.size = ops.size → ((List.range ops.size).filter fun i => !(listed.getD i false)).length ≤ fuel →
      Inv (G := G) (st0 := st0) (fr0 := fr0) recs r0 w0 a0 (fun i => listed.getD i false || decide (ops.size ≤ i)) r w a → wpAnyIn (WF ro) m P .any ops Q fuel listed a w := by
  have hsz : recs.length = ops.size := by rw [hlen, hall]; simp
  have hOne : ∀ pre R rest, recs = pre ++ R :: rest → ∃ o, ops[rest.length]? = some o ∧ OneOk P G rec all st0 fr0 o R rest := by
    intro pre R rest e
    have hg := hM.good
    rw [e] at hg
    obtain ⟨_, o, ho, h⟩ := GoodR.at_ hg
    rw [hall] at ho
    exact ⟨o, by simpa using ho, h⟩
  -- all are listed, or one may come up
  have done : ∀ (listed : Array Bool), listed.size = ops.size → Region.ready .any ops listed = [] → ∀ i, i < ops.size → listed.getD i false = true := by
    intro listed hls hr i
    induction i using Nat.strongRecOn with
    | _ i ih =>
      intro hi
      cases hli : listed.getD i false with
      | true => rfl
      | false =>
        exfalso
        obtain ⟨pre, R, rest, e, hl⟩ := split_len (recs := recs) (j := i) (by omega)
        obtain ⟨o, ho, hone⟩ := hOne pre R rest e
        have : i ∈ Region.ready .any ops listed := by
          refine mem_ready.2 ⟨?_, o, by rw [← hl]; exact ho, ?_⟩
          · simpa [Array.getD_eq_getD_getElem?, show i < listed.size by omega] using hli
          · intro ed hed hb
            have := bef_lt hone.bef ed (by simpa using hed) hb
            exact ih ed.on (by omega) (by omega)
        rw [hr] at this
        cases this
  have finish : ∀ (listed : Array Bool) r w a, listed.size = ops.size → Region.ready .any ops listed = [] → Inv (G := G) (st0 := st0) (fr0 := fr0) recs r0 w0 a0 (fun i => listed.getD i false || decide (ops.size ≤ i)) r w a → Q .normal a w := by
    intro listed r w a hls hr hI
    refine hQ r w a ?_
    have e : (fun i => listed.getD i false || decide (ops.size ≤ i)) = top := by
      funext i
      rcases Nat.lt_or_ge i ops.size with h | h
      · rw [done listed hls hr i h]; rfl
      · simp [h, top]
    rw [e] at hI
    exact hI
  intro fuel
  induction fuel with
  | zero =>
    intro listed r w a hls hcount hI
    have hr : Region.ready .any ops listed = [] := by
      apply List.eq_nil_iff_forall_not_mem.2
      intro i hi
      obtain ⟨h1, o, ho, _⟩ := mem_ready.1 hi
      have hlt := (Array.getElem?_eq_some_iff.1 ho).1
      have h2 : i ∈ (List.range ops.size).filter fun i => !(listed.getD i false) := by
        rw [List.mem_filter]
        refine ⟨by simpa using hlt, ?_⟩
        have : i < listed.size := by omega
        simp [Array.getD_eq_getD_getElem?, this] at h1 ⊢
        exact h1
      rw [List.eq_nil_of_length_eq_zero (Nat.le_zero.1 hcount)] at h2
      cases h2
    exact ⟨hr, finish listed r w a hls hr hI⟩
  | succ fuel ih =>
    intro listed r w a hls hcount hI
    refine ⟨fun hr => finish listed r w a hls hr hI, fun j hj => ?_⟩
    obtain ⟨hun, o, ho, hedges⟩ := mem_ready.1 hj
    have hjlt := (Array.getElem?_eq_some_iff.1 ho).1
    have hjl : j < listed.size := by omega
    have hunf : listed.getD j false = false := by
      simp [Array.getD_eq_getD_getElem?, hjl] at hun ⊢
      exact hun
    obtain ⟨pre, R, rest, e, hl⟩ := split_len (recs := recs) (j := j) (by omega)
    obtain ⟨o', ho', hone⟩ := hOne pre R rest e
    rw [hl, ho] at ho'
    cases ho'
    subst hl
    have hg := hM.good
    have hg2 := hg
    rw [e] at hg2
    have hDj : (listed.getD rest.length false || decide (ops.size ≤ rest.length)) = false := by rw [hunf]; simp; omega
    -- those ahead are done
    have hbef : ∀ k, R.bef.testBit k = true → (listed.getD k false || decide (ops.size ≤ k)) = true := by
      intro k hk
      obtain ⟨ed, hed, hb, hlt, h1⟩ := bef_bit hone.bef k hk
      have hd := hedges ed (by simpa using hed) hb
      rcases h1 with rfl | ⟨R', hR', hk'⟩
      · rw [hd]; rfl
      · obtain ⟨p1, p2, e3, hp⟩ : ∃ p1 p2, rest = p1 ++ R' :: p2 ∧ p2.length = ed.on := by
          have hi := (List.getElem?_eq_some_iff.1 hR').1
          refine ⟨rest.take (rest.length - 1 - ed.on), rest.drop (rest.length - 1 - ed.on + 1), ?_, by simp; omega⟩
          have h5 := (List.getElem?_eq_some_iff.1 hR').2
          rw [← h5, ← List.drop_eq_getElem_cons hi, List.take_append_drop]
        refine hI.dc (pre ++ R :: p1) R' p2 (by rw [e, e3]; simp) ?_ k hk'
        (try dsimp only)
        rw [hp, hd]
        rfl
    -- pairs
    have hlater : ∀ p1 Q p2, pre = p1 ++ Q :: p2 → (listed.getD (p2.length + (rest.length + 1)) false || decide (ops.size ≤ p2.length + (rest.length + 1))) = true → PairP Q R := by
      intro p1 Q' p2 e3 hD
      have hg3 : GoodR P G rec all st0 fr0 (p1 ++ Q' :: (p2 ++ R :: rest)) := by rw [e3] at hg2; simpa using hg2
      obtain ⟨_, o3, _, hone3⟩ := GoodR.at_ hg3
      rcases allPairs_at hone3.pairs rfl with h1 | h1
      · have := hI.dc p1 Q' (p2 ++ R :: rest) (by rw [e, e3]; simp) (by
          (try dsimp only)
          have : (p2 ++ R :: rest).length = p2.length + (rest.length + 1) := by simp
          rw [this]; exact hD) rest.length h1
        (try dsimp only at this)
        rw [hDj] at this
        cases this
      · exact h1
    have hearlier : ∀ p1 Q p2, rest = p1 ++ Q :: p2 → (listed.getD p2.length false || decide (ops.size ≤ p2.length)) = false → R.bef.testBit p2.length = false ∧ PairP R Q := by
      intro p1 Q' p2 e3 hD
      have hb : R.bef.testBit p2.length = false := by
        cases hb : R.bef.testBit p2.length with
        | false => rfl
        | true => rw [hbef _ hb] at hD; cases hD
      rcases allPairs_at hone.pairs e3 with h1 | h1
      · rw [hb] at h1; cases h1
      · exact ⟨hb, h1⟩
    obtain ⟨τ, hτ, hdid⟩ := hone.did
    -- what it reads is there
    have hreads : ∀ t ∈ R.reads, gD fr0.τ.get (tL recs) (fun i => listed.getD i false || decide (ops.size ≤ i)) t = tRun fr0 rest t := by
      intro t ht
      rw [e, tL_app, gD_skip]
      · show gD fr0.τ.get (_ :: tL rest) _ t = _
        rw [gD_pass (.inr (by simpa [tL] using hDj))]
        refine gD_top ?_
        intro p1 q p2 e2 hD
        obtain ⟨l1, Q', l2, e3, _, rfl, rfl⟩ := map_split (f := fun R : Rc => (R.writes, fun _ => some R.v)) e2
        rw [List.length_map] at hD
        exact (hearlier l1 Q' l2 e3 hD).2.reads t ht
      · intro p1 q p2 e2 hD
        obtain ⟨l1, Q', l2, e3, _, rfl, rfl⟩ := map_split (f := fun R : Rc => (R.writes, fun _ => some R.v)) e2
        have h5 : (tL (R :: rest)).length = rest.length + 1 := by simp [tL]
        rw [h5, List.length_map] at hD
        exact (hlater l1 Q' l2 e3 hD).reads' t ht
    have hTc : TR r (restrictT τ R.reads) (cut a fr0.N R.reads).tmps := by
      intro t
      rw [cut_at hI.tsz, restrictT_get]
      by_cases ht : t ∈ R.reads
      · rw [if_pos ht, if_pos ht]
        have := hI.tmps t
        rw [hreads t ht, ← hτ t] at this
        exact this
      · rw [if_neg ht, if_neg ht]
        exact undef_ok
    have hrd := hone.reads
    have hwant : Region.wanted o (yielded ops a.tmps) = wantedP all (restrictT τ R.reads) o := by
      rw [wanted_ok hTc, hall]
      unfold Region.wanted
      cases hgd : o.guard with
      | none => rfl
      | some x =>
        obtain ⟨jg, want⟩ := x
        simp only [yielded, Array.toArray_toList]
        cases hoj : ops[jg]? with
        | none => rfl
        | some oj =>
          cases hdd : oj.dst with
          | none => simp [hdd]
          | some d =>
            have hmem : d ∈ R.reads := by
              rw [hrd]
              unfold readsOf
              rw [hgd, hall]
              simp [hoj, hdd]
            simp only [Option.bind_some, hdd]
            rw [cut_q hI.tsz hmem]
    have nextI : ∀ r' w' a', Inv (G := G) (st0 := st0) (fr0 := fr0) recs r0 w0 a0 (fun i => if i = rest.length then true else (listed.getD i false || decide (ops.size ≤ i))) r' w' a' →
        wpAnyIn (WF ro) m P .any ops Q fuel (listed.setIfInBounds rest.length true) a' w' := by
      intro r' w' a' hI'
      refine ih _ r' w' a' (by simp [hls]) ?_ ?_
      · have hmem : rest.length ∈ (List.range ops.size).filter fun i => !(listed.getD i false) := by
          rw [List.mem_filter]; exact ⟨by simpa using hjlt, by rw [hunf]; rfl⟩
        have hsub : ∀ (l : List Nat), l.Nodup → ((l.filter fun i => !((listed.setIfInBounds rest.length true).getD i false)).length + (if rest.length ∈ l.filter (fun i => !(listed.getD i false)) then 1 else 0)) ≤ (l.filter fun i => !(listed.getD i false)).length := by
          intro l hnd
          induction l with
          | nil => simp
          | cons x l ihl =>
            have hnd2 := List.nodup_cons.1 hnd
            have ihl := ihl hnd2.2
            by_cases hx : x = rest.length
            · subst hx
              have h1 : (listed.setIfInBounds rest.length true).getD rest.length false = true := by simp [Array.getD_eq_getD_getElem?, hjl]
              have h2 : ¬ rest.length ∈ l.filter (fun i => !(listed.getD i false)) := fun h => hnd2.1 (List.mem_filter.1 h).1
              rw [if_neg h2] at ihl
              simp only [List.filter_cons, h1, hunf, Bool.not_true, Bool.not_false, if_true]
              simp only [Bool.false_eq_true, if_false, List.mem_cons, true_or, if_true, List.length_cons]
              omega
            · have h1 : (listed.setIfInBounds rest.length true).getD x false = listed.getD x false := getD_set_ne false (fun h => hx h.symm)
              simp only [List.filter_cons, h1]
              cases hq : listed.getD x false with
              | true => simpa using ihl
              | false =>
                simp only [Bool.not_false, if_true, List.length_cons, List.mem_cons, show ¬ rest.length = x from fun h => hx h.symm, false_or]
                omega
        have := hsub (List.range ops.size) List.nodup_range
        rw [if_pos hmem] at this
        omega
      · have e4 : (fun i => (listed.setIfInBounds rest.length true).getD i false || decide (ops.size ≤ i)) = (fun i => if i = rest.length then true else (listed.getD i false || decide (ops.size ≤ i))) := by
          funext i
          by_cases hi : i = rest.length
          · subst hi
            have h1 : (listed.setIfInBounds rest.length true).getD rest.length false = true := by simp [Array.getD_eq_getD_getElem?, hjl]
            rw [h1, if_pos rfl]; rfl
          · rw [if_neg hi, getD_set_ne false (fun h => hi h.symm)]
        rw [e4]
        exact hI'
    have hlo0 : st0.n ≤ R.lo := by
      rw [hone.lo]
      exact st0_le (p1 := pre ++ [R]) (S := rest) (by simpa using hg2)
    have hhi : R.hi ≤ st'.n := by
      rw [hM.n, e]
      have := nOf_le (p1 := pre) (S := R :: rest) hg2
      exact this
    have hfr : Fresh r R.lo R.hi := by
      intro x h1 h2
      cases hrx : r x with
      | none => rfl
      | some z =>
        exfalso
        have hx0 : r0 x = none := hf x (by omega) (by omega)
        obtain ⟨p1, R', rest', e', hD, h3, h4⟩ := hI.new x hx0 (by simp [hrx])
        rcases Nat.lt_trichotomy rest'.length rest.length with h5 | h5 | h5
        · -- R' is ahead of R in the text
          obtain ⟨q2, e5⟩ : ∃ q2, rest = q2 ++ R' :: rest' := by
            have e6 := e.symm.trans e'
            have hsuf : R' :: rest' <:+ R :: rest := by
              refine List.suffix_of_suffix_length_le ⟨p1, e'.symm⟩ ⟨pre, e.symm⟩ (by simp; omega)
            rcases List.suffix_cons_iff.1 hsuf with h6 | ⟨q2, h6⟩
            · have := congrArg List.length h6; simp at this; omega
            · exact ⟨q2, h6.symm⟩
          have := hi_le_lo (p1 := pre) (p2 := q2) (rest := rest') (Q := R) (R := R') (by rw [e5] at hg2; exact hg2)
          omega
        · rw [e] at e'
          have h6 := List.append_inj' e' (by simp [h5])
          have h7 := List.cons.inj h6.2
          (try dsimp only at hD)
          rw [h5, hDj] at hD
          cases hD
        · obtain ⟨q2, e5⟩ : ∃ q2, rest' = q2 ++ R :: rest := by
            have hsuf : R :: rest <:+ R' :: rest' := by
              refine List.suffix_of_suffix_length_le ⟨pre, e.symm⟩ ⟨p1, e'.symm⟩ (by simp; omega)
            rcases List.suffix_cons_iff.1 hsuf with h6 | ⟨q2, h6⟩
            · have := congrArg List.length h6; simp at this; omega
            · exact ⟨q2, h6.symm⟩
          have := hi_le_lo (p1 := p1) (p2 := q2) (rest := rest) (Q := R') (R := R) (by have h8 := hg; rw [e', e5] at h8; exact h8)
          omega
    unfold wpOpIn
    rw [ho]
    (try dsimp only)
    rw [hwant]
    rcases hdid with ⟨hw, hv, hhl, hWn, hHn⟩ | ⟨hw, H, st2, hop, hn2, hH, hWlt, hW, hHsub⟩
    · rw [hw]
      refine ⟨fun _ _ => trivial, ?_⟩
      -- nothing is done
      have hs : Step G r { H := .nil, n := R.lo, W := [] } w r { H := .nil, n := R.lo, W := [] } w :=
        Step.refl ⟨fun i ob h => by simp [Tr.get_nil] at h, fun i j ob ob' b k k' h => by simp [Tr.get_nil] at h, hI.rel.glob⟩
      exact nextI r w _ (inv_step hg e hone hI hDj hbef hR0 (fun x ob h => by simp [Tr.get_nil] at h) (fun x ob h => by simp [Tr.get_nil] at h) rfl rfl hs hhl hHn (fun x h => by simp at h) (fun x => by rw [hWn]; simp) hfr (by rw [hv]; exact undef_ok) hlater)
    · rw [hw, if_pos rfl]
      obtain ⟨hnsel, hndef⟩ := defer_sel hop
      refine ⟨fun _ _ => trivial, ?_⟩
      rw [semAt_ok hndef]
      have hexec : execOp a.eval o = execOp (cut a fr0.N R.reads).eval o := by
        refine execOp_congr o hnsel fun x hx => ?_
        cases x with
        | tmp t =>
          have hmem : t ∈ R.reads := by
            rw [hrd]
            unfold readsOf
            refine List.mem_append_left _ (List.mem_filterMap.2 ⟨.tmp t, by simpa using hx, rfl⟩)
          show a.tmps.getD t undef = (cut a fr0.N R.reads).tmps.getD t undef
          rw [cut_at hI.tsz, if_pos hmem]
        | const c => rfl
        | global g => rfl
        | func f => rfl
      rw [hexec]
      have hsub : ∀ x ob, H.get x = some ob → gD st0.H.get (hL recs) (fun i => listed.getD i false || decide (ops.size ≤ i)) x = some ob := by
        intro x ob hx
        obtain ⟨h1, h2, h3⟩ := hHsub x ob hx
        rw [← h1]
        unfold hRun
        rw [e, hL_app, gD_skip]
        · show gD st0.H.get (_ :: hL rest) _ x = _
          rw [gD_pass (.inr (by simpa [hL] using hDj))]
          refine gD_top ?_
          intro p1 q p2 e2 hD
          obtain ⟨l1, Q', l2, e3, _, rfl, rfl⟩ := map_split (f := fun R : Rc => (R.touch, R.H.get)) e2
          rw [List.length_map] at hD
          obtain ⟨hb, hp⟩ := hearlier l1 Q' l2 e3 hD
          cases hn : R.need with
          | some l =>
            have := hp.need l hn x (h2 l hn)
            exact touch_no this.1 this.2
          | none =>
            refine touch_no (by rw [hp.calls hn]; simp) ?_
            rintro ⟨h5, h6⟩
            exact h3 hn (strange_at e3 hb h5 h6)
        · intro p1 q p2 e2 hD
          obtain ⟨l1, Q', l2, e3, _, rfl, rfl⟩ := map_split (f := fun R : Rc => (R.touch, R.H.get)) e2
          have h5 : (hL (R :: rest)).length = rest.length + 1 := by simp [hL]
          rw [h5, List.length_map] at hD
          have hp := hlater l1 Q' l2 e3 hD
          cases hn : R.need with
          | some l =>
            have := hp.need' l hn x (h2 l hn)
            exact touch_no this.1 this.2
          | none =>
            refine touch_no (by rw [hp.calls' hn]; simp) ?_
            rintro ⟨h5, h6⟩
            have hle := hi_le_lo (p1 := l1) (p2 := l2) (rest := rest) (Q := Q') (R := R) (by rw [e3] at hg2; simpa using hg2)
            have hlele := hone.le
            have hQhi : Q'.hi ≤ st'.n := by
              rw [hM.n, e, e3]
              have := nOf_le (p1 := l1) (S := Q' :: (l2 ++ R :: rest)) (by rw [e3] at hg2; simpa using hg2)
              simpa [nOf] using this
            rcases gD_from h1 with h7 | ⟨p3, q3, p4, e4, _, h7⟩
            · obtain ⟨b, k, hr, _⟩ := hR0.obj x ob h7
              rw [hf x (by omega) (by omega)] at hr
              cases hr
            · obtain ⟨m1, Q3, m2, e5, _, rfl, _⟩ := map_split (f := fun R : Rc => (R.touch, R.H.get)) e4
              have h8 := hi_le_lo (p1 := pre) (p2 := m1) (rest := m2) (Q := R) (R := Q3) (by rw [e5] at hg2; exact hg2)
              obtain ⟨_, o3, _, hone3⟩ := GoodR.at_ (p1 := pre ++ R :: m1) (R := Q3) (rest := m2) (by rw [e5] at hg2; simpa using hg2)
              have h9 := hone3.le
              rcases touch_iff.1 h7 with h10 | h10
              · have := hone3.old x h10; omega
              · omega
      have hRs : Rel G r { H, n := R.lo, W := [] } w := by
        refine ⟨fun i ob h => hI.rel.obj i ob (hsub i ob h), fun i j ob ob' b k k' h h' => hI.rel.inj i j ob ob' b k k' (hsub i ob h) (hsub j ob' h'), hI.rel.glob⟩
      have hsubl : ∀ x ob, H.get x = some ob → x < st0.n → ∃ ob, st0.H.get x = some ob := by
        intro x ob hx hlt
        rcases gD_from (hsub x ob hx) with h7 | ⟨p3, q3, p4, e4, hD4, h7⟩
        · exact ⟨ob, h7⟩
        · obtain ⟨m1, Q3, m2, e5, _, rfl, rfl⟩ := map_split (f := fun R : Rc => (R.touch, R.H.get)) e4
          rw [List.length_map] at hD4
          rcases touch_iff.1 h7 with h10 | h10
          · rcases hI.live m1 Q3 m2 e5 hD4 x h10 with h11 | h11
            · exact h11
            · omega
          · have h12 : st0.n ≤ Q3.lo := by
              obtain ⟨_, o3, _, hone3⟩ := GoodR.at_ (p1 := m1) (R := Q3) (rest := m2) (by rw [e5] at hg; exact hg)
              rw [hone3.lo]
              exact st0_le (p1 := m1 ++ [Q3]) (S := m2) (by rw [e5] at hg; simpa using hg)
            omega
      refine op_ok (τ := restrictT τ R.reads) hrec hN hRs (eval_ok hRs hTc) (fun x hx => by rw [List.mem_singleton.1 hx]; dsimp only; rw [← hn2]; exact hfr) hop a _ Q fun x hx r' w' v' hs hv => ?_
      rw [List.mem_singleton.1 hx] at hs hv
      exact nextI r' w' _ (inv_step hg e hone hI hDj hbef hR0 hsub hsubl rfl rfl hs hn2 hH hWlt hW hfr hv hlater)

theorem draw_ok (hrec : RecOk P G rec) (hN : Kn P G) (hm : P.follows .mixedOrders = true) : DrawOk P G rec := by
  intro ops fr fr' st st' recs h r w a ro m id hR hF hf
  have h0 : Mid (P := P) (G := G) (rec := rec) (all := ops.toList) (st0 := st) (fr0 := fr) [] fr st :=
    ⟨trivial, rfl, fun x => rfl, fun t => rfl, rfl, rfl, fun x h => h, fun R h => by simp at h, fun x h => .inl h, Nat.le_refl _⟩
  obtain ⟨hM, hlen⟩ := draw_mid (all := ops.toList) (done := []) (by simp) rfl h0 h
  refine wpIn_region_any hm ?_
  refine draw_any (ops := ops) (r0 := r) (w0 := w) (a0 := a) hrec hN rfl hM hlen hR hf ?_ ops.size (Array.replicate ops.size false) r _ a (by simp) ?_ ?_
  · -- all are done
    intro r' w' a' hI
    have hh : ∀ x, gD st.H.get (hL recs) top x = st'.H.get x := fun x => (hM.h x).symm
    refine ⟨rfl, r', ⟨?_, hI.le, ?_, by rw [hM.n]; exact hM.le, hM.w0, ?_, ?_, ?_, ?_, hI.size, hI.os, hI.tape, hI.output⟩, ?_⟩
    · have e : gD st.H.get (hL recs) top = st'.H.get := funext hh
      have := hI.rel
      rw [e] at this
      exact this
    · intro i hi hi2
      obtain ⟨p1, R, rest, e, _, h1, h2⟩ := hI.new i hi hi2
      have hg := hM.good
      rw [e] at hg
      obtain ⟨_, o, _, hone⟩ := GoodR.at_ hg
      have h3 := st0_le (p1 := p1 ++ [R]) (S := rest) (by simpa using hg)
      rw [← hone.lo] at h3
      have h4 := nOf_le (p1 := p1) (S := R :: rest) hg
      rw [hM.n, e]
      have h5 : nOf st (R :: rest) = R.hi := rfl
      omega
    · intro x hx
      rcases hM.wf x hx with h1 | ⟨R, hRm, h1⟩ | h1
      · exact .inl h1
      · obtain ⟨p1, rest, e⟩ := List.append_of_mem hRm
        exact .inr (hI.live p1 R rest e rfl x h1)
      · exact .inr (.inr h1)
    · intro x ob hx
      rw [← hh] at hx
      rcases gD_from hx with h1 | ⟨p3, q3, p4, e4, _, h7⟩
      · exact .inl ⟨ob, h1⟩
      · obtain ⟨m1, Q3, m2, e5, _, rfl, _⟩ := map_split (f := fun R : Rc => (R.touch, R.H.get)) e4
        rcases touch_iff.1 h7 with h10 | h10
        · exact hI.live m1 Q3 m2 e5 rfl x h10
        · have hg := hM.good
          rw [e5] at hg
          obtain ⟨_, o, _, hone⟩ := GoodR.at_ hg
          have h3 := st0_le (p1 := m1 ++ [Q3]) (S := m2) (by simpa using hg)
          rw [← hone.lo] at h3
          exact .inr (by omega)
    · intro i b k hi hi2
      rcases hI.fresh i b k hi hi2 with h1 | ⟨R, hRm, j, k', hj, hrj⟩
      · exact .inl h1
      · exact .inr ⟨j, k', hM.w R hRm j hj, hrj⟩
    · intro b hb hno
      exact hI.frame b hb fun R hRm i k hi => hno i k (hM.w R hRm i hi)
    · refine ⟨by rw [hI.tsz, hM.N], fun t => ?_, ?_⟩
      · have := hI.tmps t
        have e : (gD fr.τ.get (tL recs) top t).getD undef = (fr'.τ.get t).getD undef := (hM.t t).symm
        rw [e] at this
        exact this
      · rw [hI.defers, hM.ds]
        exact hF.defers.mono hI.le
  · exact Nat.le_trans (List.length_filter_le _ _) (by simp)
  · have hD : (fun i => (Array.replicate ops.size false).getD i false || decide (ops.size ≤ i)) = fun i => decide (ops.size ≤ i) := by
      funext i
      have : (Array.replicate ops.size false).getD i false = false := by
        rw [Array.getD_eq_getD_getElem?, Array.getElem?_replicate]
        split <;> rfl
      rw [this]; rfl
    rw [hD]
    have hsz : recs.length = ops.size := by rw [hlen]; simp
    have no : ∀ p1 R rest, recs = p1 ++ R :: rest → decide (ops.size ≤ rest.length) = true → False := by
      intro p1 R rest e hd
      have := congrArg List.length e
      simp at this hd
      omega
    have he : ∀ x, gD st.H.get (hL recs) (fun i => decide (ops.size ≤ i)) x = st.H.get x := by
      intro x
      have := gD_skip (g0 := st.H.get) (pre := hL recs) (S := []) (D := fun i => decide (ops.size ≤ i)) (x := x) fun p1 q p2 e2 hD => by
        obtain ⟨l1, Q', l2, e3, _, rfl, rfl⟩ := map_split (f := fun R : Rc => (R.touch, R.H.get)) e2
        exact (no l1 Q' l2 e3 (by simpa using hD)).elim
      rw [List.append_nil] at this
      exact this
    have ht : ∀ x, gD fr.τ.get (tL recs) (fun i => decide (ops.size ≤ i)) x = fr.τ.get x := by
      intro x
      have := gD_skip (g0 := fr.τ.get) (pre := tL recs) (S := []) (D := fun i => decide (ops.size ≤ i)) (x := x) fun p1 q p2 e2 hD => by
        obtain ⟨l1, Q', l2, e3, _, rfl, rfl⟩ := map_split (f := fun R : Rc => (R.writes, fun _ => some R.v)) e2
        exact (no l1 Q' l2 e3 (by simpa using hD)).elim
      rw [List.append_nil] at this
      exact this
    refine ⟨fun p1 R rest e hD => (no p1 R rest e hD).elim, ?_, Ren.le_refl r, fun i h1 h2 => absurd h1 h2, fun i b k h1 h2 => (by rw [h1] at h2; cases h2), fun _ _ _ => rfl, fun p1 R rest e hD => (no p1 R rest e hD).elim, Nat.le_refl _, rfl, rfl, rfl, hF.size, fun t => ?_, rfl⟩
    · rw [funext he]
      exact RelF.drawn (n := w.drawn + 1) hR
    · rw [ht]; exact hF.tmps t

/-- The whole run, at whatever depth. -/
theorem run_all (hN : Kn P G) (hm : P.follows .mixedOrders = true) (n : Nat) : RecOk P G (run P G n) := run_ok hN (fun _ hrec => draw_ok hrec hN hm) n
end Ev
end Go.Proofs.Ytgafkphhnlifiaa
