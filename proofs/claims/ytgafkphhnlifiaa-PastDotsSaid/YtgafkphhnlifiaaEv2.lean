/- Worlds against marks: what holds of each mark, and a step from one to the next. No program is named here. -/
import Derived.Test.YtgafkphhnlifiaaEv1
import Derived.WalkKit
import Derived.Below
namespace Go.Proofs.Ytgafkphhnlifiaa
namespace Ev
set_option linter.unusedVariables false
set_option linter.unusedSimpArgs false

def TR (r : Ren) (τ : Tr Value) (tmps : Array Value) : Prop := ∀ t, VR r ((τ.get t).getD undef) (tmps.getD t undef)
theorem TR.mono {r r' : Ren} (h : r.le r') {τ tmps} (t : TR r τ tmps) : TR r' τ tmps := fun i => (t i).mono h

/-- Only a row whose room is not known may be marked, and then past its end. -/
def fzOk (fz : Nat × Nat) (n : Nat) : Option Nat → Prop
  | none => fz = (0, 0)
  | some sz => fz = (0, 0) ∨ (sz = 1 ∧ n ≤ fz.1)
theorem fzOk.or {fz n more} (h : fzOk fz n more) : fz = (0, 0) ∨ n ≤ fz.1 := by
  cases more with
  | none => exact .inl h
  | some _ => exact h.imp id (·.2)
theorem fzOk.plain {fz n more} (h : fzOk fz n more) (hu : unmarked more = true) : fz = (0, 0) := by
  cases more with
  | none => exact h
  | some sz =>
    rcases h with h | ⟨rfl, _⟩
    · exact h
    · cases hu
theorem fzOk.zero (n : Nat) (more : Option Nat) : fzOk (0, 0) n more := by cases more <;> simp [fzOk]
/-- Entries of a map: keys that name no block, values of the same make. -/
inductive ER (r : Ren) : List (Value × Value × Nat) → List MapEntry → Prop
  | nil : ER r [] []
  | cons {k v v' n l l'} (hk : closedV k = true) (hv : VR r v v') (hl : ER r l l') : ER r ((k, v, n) :: l) ({ key := k, val := v', born := n } :: l')
theorem ER.mono {r r' : Ren} (h : r.le r') {l l'} (e : ER r l l') : ER r' l l' := by
  induction e with
  | nil => exact .nil
  | cons hk hv _ ih => exact .cons hk (hv.mono h) ih
/-- Which map a walk is of. -/
inductive MR (r : Ren) : Option Nat → Option Nat → Prop
  | none : MR r none none
  | some {i b k} (h : r i = some (b, k)) : MR r (some i) (some b)
theorem MR.mono {r r' : Ren} (h : r.le r') {m m'} (e : MR r m m') : MR r' m m' := by
  cases e with
  | none => exact .none
  | some h1 => exact .some (h _ _ h1)
def objR (r : Ren) (w : World) (b k : Nat) : SObj → Prop
  | .cells cs T more => ∃ cs' rest fz, LR r cs cs' ∧ w.heap[b]? = some (.cells (cs' ++ rest).toArray T fz) ∧ fzOk fz (cs' ++ rest).length more ∧
      (match more with
       | none => rest = []
       | some sz => cs'.length + rest.length = k * sz ∧ k ≤ 9223372036854775807)
  | .map es clock => ∃ es', ER r es es' ∧ w.heap[b]? = some (.map es'.toArray clock)
  | .loop state pending τ N ps asg body ar => ∃ fn tmps D kD, r ar = some (D, kD) ∧ tmps.size = N ∧ TR r τ tmps ∧
      w.heap[b]? = some (.loop { state, pending, fn, tmps, params := ps, assign := asg, body, defers := D })
  | .deferred => w.heap[b]? = some (.deferred (some []))
  | .sIter s pos => w.heap[b]? = some (.stringIter s pos)
  | .mIter m since seen last => ∃ m', MR r m m' ∧ w.heap[b]? = some (.mapIter m' since seen.toArray last)
theorem objR.keep {r r' : Ren} {w w' : World} {b k : Nat} {o : SObj} (h : objR r w b k o) (hr : r.le r') (hb : w'.heap[b]? = w.heap[b]?) : objR r' w' b k o := by
  cases o with
  | cells cs T more => obtain ⟨cs', rest, fz, h1, h2, h3⟩ := h; exact ⟨cs', rest, fz, h1.mono hr, hb.trans h2, h3⟩
  | map es c => obtain ⟨es', h1, h2⟩ := h; exact ⟨es', h1.mono hr, hb.trans h2⟩
  | loop state pending τ N ps asg body ar => obtain ⟨fn, tmps, D, kD, h1, h2, h3, h4⟩ := h; exact ⟨fn, tmps, D, kD, hr _ _ h1, h2, h3.mono hr, hb.trans h4⟩
  | deferred => exact hb.trans h
  | sIter s pos => exact hb.trans h
  | mIter m since seen last => obtain ⟨m', h1, h2⟩ := h; exact ⟨m', h1.mono hr, hb.trans h2⟩
theorem objR.lt {r : Ren} {w : World} {b k : Nat} {o : SObj} (h : objR r w b k o) : b < w.heap.size := by
  cases o with
  | cells cs T more => obtain ⟨cs', rest, fz, h1, h2, h3⟩ := h; exact (Array.getElem?_eq_some_iff.1 h2).1
  | map es c => obtain ⟨es', h1, h2⟩ := h; exact (Array.getElem?_eq_some_iff.1 h2).1
  | loop state pending τ N ps asg body ar => obtain ⟨fn, tmps, D, kD, h1, h2, h3, h4⟩ := h; exact (Array.getElem?_eq_some_iff.1 h4).1
  | deferred => exact (Array.getElem?_eq_some_iff.1 h).1
  | sIter s pos => exact (Array.getElem?_eq_some_iff.1 h).1
  | mIter m since seen last => obtain ⟨m', h1, h2⟩ := h; exact (Array.getElem?_eq_some_iff.1 h2).1

structure RelF (G : Cx) (r : Ren) (h : Nat → Option SObj) (w : World) : Prop where
  obj : ∀ i o, h i = some o → ∃ b k, r i = some (b, k) ∧ objR r w b k o
  inj : ∀ i j o o' b k k', h i = some o → h j = some o' → r i = some (b, k) → r j = some (b, k') → i = j
  glob : ∀ g, g < G.n → ∃ k, r g = some (g, k)
abbrev Rel (G : Cx) (r : Ren) (st : St) (w : World) : Prop := RelF G r st.H.get w

structure Step (G : Cx) (r : Ren) (st : St) (w : World) (r' : Ren) (st' : St) (w' : World) : Prop where
  rel : Rel G r' st' w'
  le : r.le r'
  new : ∀ i, r i = none → r' i ≠ none → st.n ≤ i ∧ i < st'.n
  mono : st.n ≤ st'.n
  wsub : ∀ i, i ∈ st.W → i ∈ st'.W
  wlive : ∀ i, i ∈ st'.W → i ∈ st.W ∨ (∃ o, st.H.get i = some o) ∨ st.n ≤ i
  dies : ∀ i o, st'.H.get i = some o → (∃ o, st.H.get i = some o) ∨ st.n ≤ i
  fresh : ∀ i b k, r i = none → r' i = some (b, k) → w.heap.size ≤ b ∨ ∃ j k', j ∈ st'.W ∧ r j = some (b, k')
  frame : ∀ b, b < w.heap.size → (∀ i k, i ∈ st'.W → r i ≠ some (b, k)) → w'.heap[b]? = w.heap[b]?
  size : w.heap.size ≤ w'.heap.size
  os : w'.os = w.os
  tape : w'.tape = w.tape
  output : w'.output = w.output

theorem Step.refl {G r st w} (h : Rel G r st w) : Step G r st w r st w where
  rel := h
  le := Ren.le_refl r
  new := fun i h h' => absurd h h'
  mono := Nat.le_refl _
  wsub := fun _ h => h
  wlive := fun _ h => .inl h
  dies := fun _ _ h => .inl ⟨_, h⟩
  fresh := fun i b k h h' => by rw [h] at h'; cases h'
  frame := fun _ _ _ => rfl
  size := Nat.le_refl _
  os := rfl
  tape := rfl
  output := rfl

theorem Step.trans {G r st w r1 st1 w1 r2 st2 w2} (h : Step G r st w r1 st1 w1) (k : Step G r1 st1 w1 r2 st2 w2) : Step G r st w r2 st2 w2 where
  rel := k.rel
  le := Ren.le_trans h.le k.le
  new := fun i hi hi2 => by
    cases h1 : r1 i with
    | none => have := k.new i h1 hi2; have := h.mono; omega
    | some x => have := h.new i hi (by simp [h1]); have := k.mono; omega
  mono := Nat.le_trans h.mono k.mono
  wsub := fun i hi => k.wsub i (h.wsub i hi)
  wlive := fun i hi => by
    rcases k.wlive i hi with h1 | ⟨o, h1⟩ | h1
    · exact h.wlive i h1
    · exact .inr (h.dies i o h1)
    · exact .inr (.inr (Nat.le_trans h.mono h1))
  dies := fun i o hi => by
    rcases k.dies i o hi with ⟨o, h1⟩ | h1
    · exact h.dies i o h1
    · exact .inr (Nat.le_trans h.mono h1)
  fresh := fun i b kk hi hi2 => by
    cases h1 : r1 i with
    | none =>
      rcases k.fresh i b kk h1 hi2 with h' | ⟨j, k', hj, hrj⟩
      · have := h.size; left; omega
      · cases hj0 : r j with
        | none =>
          rcases h.fresh j b k' hj0 hrj with h' | ⟨j2, k2, hj2, hr2⟩
          · exact .inl h'
          · exact .inr ⟨j2, k2, k.wsub _ hj2, hr2⟩
        | some x =>
          have := h.le j x hj0
          rw [hrj] at this
          cases this
          exact .inr ⟨j, k', hj, hj0⟩
    | some x =>
      have := k.le i x h1
      rw [hi2] at this
      cases this
      rcases h.fresh i b kk hi h1 with h' | ⟨j, k', hj, hrj⟩
      · exact .inl h'
      · exact .inr ⟨j, k', k.wsub _ hj, hrj⟩
  frame := fun b hb hW => by
    have e1 := h.frame b hb (fun i kk hi => hW i kk (k.wsub i hi))
    refine (k.frame b (Nat.lt_of_lt_of_le hb h.size) (fun i kk hi hr1 => ?_)).trans e1
    cases hi0 : r i with
    | none =>
      rcases h.fresh i b kk hi0 hr1 with h' | ⟨j, k', hj, hrj⟩
      · omega
      · exact hW j k' (k.wsub _ hj) hrj
    | some x =>
      have := h.le i x hi0
      rw [hr1] at this
      cases this
      exact hW i kk hi hi0
  size := Nat.le_trans h.size k.size
  os := k.os.trans h.os
  tape := k.tape.trans h.tape
  output := k.output.trans h.output

def Ren.set (r : Ren) (i : Nat) (x : Nat × Nat) : Ren := fun j => if j = i then some x else r j
theorem Ren.le_set {r : Ren} {i : Nat} {x : Nat × Nat} (h : r i = none) : r.le (r.set i x) := fun j y hy => by
  unfold Ren.set
  split
  · rename_i e; subst e; rw [h] at hy; cases hy
  · exact hy

/-- A new block under a new mark. -/
theorem Step.alloc {G r st w w' k} {o : SObj} (hR : Rel G r st w) (hf : r st.n = none) (ho : ∀ r', r.le r' → objR r' w' w.heap.size k o)
    (hk : ∀ b, b < w.heap.size → w'.heap[b]? = w.heap[b]?) (hs : w.heap.size ≤ w'.heap.size) (h1 : w'.os = w.os) (h2 : w'.tape = w.tape) (h3 : w'.output = w.output) :
    Step G r st w (r.set st.n (w.heap.size, k)) (st.new o) w' := by
  have hle : r.le (r.set st.n (w.heap.size, k)) := Ren.le_set hf
  refine ⟨⟨?_, ?_, ?_⟩, hle, ?_, by simp [St.new], fun i h => h, fun i h => .inl h, fun i o h => ?_, ?_, fun b hb _ => hk b hb, hs, h1, h2, h3⟩
  · intro i o' hi
    simp only [St.new, Tr.get_put] at hi
    by_cases e : i = st.n
    · subst e
      rw [if_pos rfl] at hi
      cases hi
      exact ⟨_, k, by simp [Ren.set], ho _ hle⟩
    · rw [if_neg e] at hi
      obtain ⟨b, kk, hr, hob⟩ := hR.obj i o' hi
      exact ⟨b, kk, hle _ _ hr, hob.keep hle (hk b hob.lt)⟩
  · intro i j oi oj b ki kj hi hj hri hrj
    simp only [St.new, Tr.get_put] at hi hj
    have old : ∀ i o', i ≠ st.n → st.H.get i = some o' → ∀ b kk, (r.set st.n (w.heap.size, k)) i = some (b, kk) → r i = some (b, kk) ∧ b < w.heap.size := by
      intro i o' e hi b kk hr
      simp only [Ren.set, if_neg e] at hr
      obtain ⟨b', k', hr', hob⟩ := hR.obj i o' hi
      rw [hr] at hr'
      cases hr'
      exact ⟨hr, hob.lt⟩
    by_cases ei : i = st.n <;> by_cases ej : j = st.n
    · rw [ei, ej]
    · subst ei
      rw [if_neg ej] at hj
      have := (old j _ ej hj b kj hrj).2
      simp [Ren.set] at hri
      omega
    · subst ej
      rw [if_neg ei] at hi
      have := (old i _ ei hi b ki hri).2
      simp [Ren.set] at hrj
      omega
    · rw [if_neg ei] at hi
      rw [if_neg ej] at hj
      exact hR.inj i j _ _ b ki kj hi hj (old i _ ei hi b ki hri).1 (old j _ ej hj b kj hrj).1
  · intro g hg
    obtain ⟨kk, h⟩ := hR.glob g hg
    exact ⟨kk, hle _ _ h⟩
  · intro i hi hi2
    by_cases e : i = st.n
    · subst e; simp [St.new]
    · simp only [Ren.set, if_neg e] at hi2; exact absurd hi hi2
  · simp only [St.new, Tr.get_put] at h
    by_cases e : i = st.n
    · exact .inr (by omega)
    · rw [if_neg e] at h; exact .inl ⟨_, h⟩
  · intro i b kk hi hi2
    by_cases e : i = st.n
    · subst e; simp [Ren.set] at hi2; exact .inl (by omega)
    · simp only [Ren.set, if_neg e] at hi2; rw [hi] at hi2; cases hi2

/-- What lies under a mark is turned. -/
theorem Step.turn {G r st w w' i b k} {o o' : SObj} (hR : Rel G r st w) (hi : st.H.get i = some o) (hr : r i = some (b, k)) (ho : objR r w' b k o')
    (hk : ∀ c, c ≠ b → w'.heap[c]? = w.heap[c]?) (hs : w'.heap.size = w.heap.size) (h1 : w'.os = w.os) (h2 : w'.tape = w.tape) (h3 : w'.output = w.output) :
    Step G r st w r (st.upd i o') w' := by
  refine ⟨⟨?_, ?_, hR.glob⟩, Ren.le_refl r, fun j h h' => absurd h h', Nat.le_refl _, fun j h => List.mem_cons_of_mem _ h, fun j h => ?_, fun j oj h => ?_, fun j b kk h h' => (by rw [h] at h'; cases h'), ?_, by omega, h1, h2, h3⟩
  · intro j oj hj
    simp only [St.upd, Tr.get_put] at hj
    by_cases e : j = i
    · subst e
      rw [if_pos rfl] at hj
      cases hj
      exact ⟨b, k, hr, ho⟩
    · rw [if_neg e] at hj
      obtain ⟨c, kk, hrj, hob⟩ := hR.obj j oj hj
      refine ⟨c, kk, hrj, hob.keep (Ren.le_refl r) (hk c ?_)⟩
      rintro rfl
      exact e (hR.inj j i _ _ c kk k hj hi hrj hr)
  · intro x y ox oy c kx ky hx hy hrx hry
    simp only [St.upd, Tr.get_put] at hx hy
    have hx' : ∃ o, st.H.get x = some o := by
      by_cases e : x = i
      · subst e; exact ⟨_, hi⟩
      · rw [if_neg e] at hx; exact ⟨_, hx⟩
    have hy' : ∃ o, st.H.get y = some o := by
      by_cases e : y = i
      · subst e; exact ⟨_, hi⟩
      · rw [if_neg e] at hy; exact ⟨_, hy⟩
    obtain ⟨_, hx'⟩ := hx'
    obtain ⟨_, hy'⟩ := hy'
    exact hR.inj x y _ _ c kx ky hx' hy' hrx hry
  · rcases List.mem_cons.1 h with rfl | h
    · exact .inr (.inl ⟨_, hi⟩)
    · exact .inl h
  · simp only [St.upd, Tr.get_put] at h
    by_cases e : j = i
    · subst e; exact .inl ⟨_, hi⟩
    · rw [if_neg e] at h; exact .inl ⟨_, h⟩
  · intro c hc hW
    refine hk c ?_
    rintro rfl
    exact hW i k (List.mem_cons_self ..) hr

/-- A mark's row is given up for another mark's: the same block, or a new one. -/
theorem Step.moved {G r st w w' i b k b' k'} {o o' : SObj} (hR : Rel G r st w) (hi : st.H.get i = some o) (hr : r i = some (b, k)) (hf : r st.n = none)
    (ho : ∀ r', r.le r' → objR r' w' b' k' o') (hb : b' = b ∨ b' = w.heap.size)
    (hk : ∀ c, c ≠ b → c < w.heap.size → w'.heap[c]? = w.heap[c]?) (hs : w.heap.size ≤ w'.heap.size) (h1 : w'.os = w.os) (h2 : w'.tape = w.tape) (h3 : w'.output = w.output) :
    Step G r st w (r.set st.n (b', k')) { H := (st.H.put i none).put st.n (some o'), n := st.n + 1, W := i :: st.W } w' := by
  have hle : r.le (r.set st.n (b', k')) := Ren.le_set hf
  have hin : i ≠ st.n := by rintro rfl; rw [hf] at hr; cases hr
  have old : ∀ j oj, ((st.H.put i none).put st.n (some o')).get j = some oj → j ≠ st.n → j ≠ i ∧ st.H.get j = some oj := by
    intro j oj hj e
    simp only [Tr.get_put] at hj
    rw [if_neg e] at hj
    by_cases e2 : j = i
    · rw [if_pos e2] at hj; cases hj
    · rw [if_neg e2] at hj; exact ⟨e2, hj⟩
  have oldr : ∀ j, j ≠ st.n → (r.set st.n (b', k')) j = r j := fun j e => by simp [Ren.set, e]
  refine ⟨⟨?_, ?_, ?_⟩, hle, ?_, by simp, fun j h => List.mem_cons_of_mem _ h, fun j h => ?_, fun j oj h => ?_, ?_, ?_, hs, h1, h2, h3⟩
  · intro j oj hj
    by_cases e : j = st.n
    · subst e
      simp only [Tr.get_put, if_true] at hj
      cases hj
      exact ⟨b', k', by simp [Ren.set], ho _ hle⟩
    · obtain ⟨e2, hj'⟩ := old j oj hj e
      obtain ⟨c, kk, hrj, hob⟩ := hR.obj j oj hj'
      refine ⟨c, kk, hle _ _ hrj, hob.keep hle (hk c ?_ hob.lt)⟩
      rintro rfl
      exact e2 (hR.inj j i _ _ c kk k hj' hi hrj hr)
  · intro x y ox oy c kx ky hx hy hrx hry
    have no : ∀ j oj kj, ((st.H.put i none).put st.n (some o')).get j = some oj → j ≠ st.n → (r.set st.n (b', k')) j = some (b', kj) → False := by
      intro j oj kj hj e hrj
      obtain ⟨e2, hj'⟩ := old j oj hj e
      rw [oldr j e] at hrj
      rcases hb with rfl | rfl
      · exact e2 (hR.inj j i _ _ b' kj k hj' hi hrj hr)
      · obtain ⟨c, kk, hrj', hob⟩ := hR.obj j oj hj'
        rw [hrj] at hrj'
        cases hrj'
        exact Nat.lt_irrefl _ hob.lt
    by_cases ex : x = st.n <;> by_cases ey : y = st.n
    · rw [ex, ey]
    · subst ex
      simp [Ren.set] at hrx
      obtain ⟨rfl, rfl⟩ := hrx
      exact (no y oy ky hy ey hry).elim
    · subst ey
      simp [Ren.set] at hry
      obtain ⟨rfl, rfl⟩ := hry
      exact (no x ox kx hx ex hrx).elim
    · rw [oldr x ex] at hrx
      rw [oldr y ey] at hry
      exact hR.inj x y _ _ c kx ky (old x ox hx ex).2 (old y oy hy ey).2 hrx hry
  · intro g hg
    obtain ⟨kk, h⟩ := hR.glob g hg
    exact ⟨kk, hle _ _ h⟩
  · intro j hj hj2
    by_cases e : j = st.n
    · subst e; simp
    · rw [oldr j e] at hj2; exact absurd hj hj2
  · rcases List.mem_cons.1 h with rfl | h
    · exact .inr (.inl ⟨_, hi⟩)
    · exact .inl h
  · by_cases e : j = st.n
    · exact .inr (by omega)
    · exact .inl ⟨_, (old j oj h e).2⟩
  · intro j c kk hj hj2
    by_cases e : j = st.n
    · subst e
      simp [Ren.set] at hj2
      obtain ⟨rfl, rfl⟩ := hj2
      rcases hb with rfl | rfl
      · exact .inr ⟨i, k, List.mem_cons_self .., hr⟩
      · exact .inl (Nat.le_refl _)
    · rw [oldr j e, hj] at hj2; cases hj2
  · intro c hc hW
    refine hk c ?_ hc
    rintro rfl
    exact hW i k (List.mem_cons_self ..) hr

/-- What lies under a mark is turned, and nothing is known of it any more. -/
theorem Step.drop {G r st w w' i b k} {o : SObj} (hR : Rel G r st w) (hi : st.H.get i = some o) (hr : r i = some (b, k))
    (hk : ∀ c, c ≠ b → w'.heap[c]? = w.heap[c]?) (hs : w'.heap.size = w.heap.size) (h1 : w'.os = w.os) (h2 : w'.tape = w.tape) (h3 : w'.output = w.output) :
    Step G r st w r { H := st.H.put i none, n := st.n, W := i :: st.W } w' := by
  have old : ∀ j oj, (st.H.put i none).get j = some oj → j ≠ i ∧ st.H.get j = some oj := by
    intro j oj hj
    simp only [Tr.get_put] at hj
    by_cases e2 : j = i
    · rw [if_pos e2] at hj; cases hj
    · rw [if_neg e2] at hj; exact ⟨e2, hj⟩
  refine ⟨⟨?_, ?_, hR.glob⟩, Ren.le_refl r, fun j h h' => absurd h h', Nat.le_refl _, fun j h => List.mem_cons_of_mem _ h, fun j h => ?_, fun j oj h => .inl ⟨_, (old j oj h).2⟩, fun j b kk h h' => (by rw [h] at h'; cases h'), ?_, by omega, h1, h2, h3⟩
  · intro j oj hj
    obtain ⟨e, hj⟩ := old j oj hj
    obtain ⟨c, kk, hrj, hob⟩ := hR.obj j oj hj
    refine ⟨c, kk, hrj, hob.keep (Ren.le_refl r) (hk c ?_)⟩
    rintro rfl
    exact e (hR.inj j i _ _ c kk k hj hi hrj hr)
  · intro x y ox oy c kx ky hx hy hrx hry
    exact hR.inj x y _ _ c kx ky (old x ox hx).2 (old y oy hy).2 hrx hry
  · rcases List.mem_cons.1 h with rfl | h
    · exact .inr (.inl ⟨_, hi⟩)
    · exact .inl h
  · intro c hc hW
    refine hk c ?_
    rintro rfl
    exact hW i k (List.mem_cons_self ..) hr

/-- The tape's count has moved on. -/
theorem RelF.drawn {G r st w} {n : Nat} (h : Rel G r st w) : Rel G r st { w with drawn := n } :=
  ⟨fun i o hi => let ⟨b, k, h1, h2⟩ := h.obj i o hi; ⟨b, k, h1, h2.keep (Ren.le_refl r) rfl⟩, h.inj, h.glob⟩
theorem Step.drawn {G r st w} {n : Nat} (h : Rel G r st w) : Step G r st w r st { w with drawn := n } :=
  { Step.refl h with rel := h.drawn, frame := fun _ _ _ => rfl, size := Nat.le_refl _, os := rfl, tape := rfl, output := rfl }

theorem RelF.cells {G r st w} (h : Rel G r st w) {i cs T m} (hc : st.cells i = some (cs, T, m)) :
    st.H.get i = some (.cells cs T m) ∧ ∃ b k, r i = some (b, k) ∧ objR r w b k (.cells cs T m) := by
  unfold St.cells at hc
  split at hc
  · rename_i hg
    cases hc
    exact ⟨hg, h.obj i _ hg⟩
  · cases hc
theorem eval_ok {G r st w τ} {a : Act} (hR : Rel G r st w) (hT : TR r τ a.tmps) : ∀ x v, eval G τ x = some v → VR r v (a.eval x) := by
  intro x v h
  cases x with
  | tmp t => simp only [eval] at h; cases h; exact hT t
  | const c =>
    simp only [eval, cond_eq_ite] at h
    split at h
    · cases h; exact VR.closed v ‹_›
    · cases h
  | global g =>
    simp only [eval, cond_eq_ite] at h
    split at h
    · rename_i hg
      cases h
      obtain ⟨k, hk⟩ := hR.glob g (by simpa [Nat.blt_eq] using hg)
      exact .ptr 0 none hk
    · cases h
  | func f => simp only [eval] at h; cases h; exact .func _ (by simp) .nil .nil
end Ev
end Go.Proofs.Ytgafkphhnlifiaa
