/- What a mark stands for: values, rows and worlds against their marks. No program is named here. -/
import Derived.Test.YtgafkphhnlifiaaEv
namespace Go.Proofs.Ytgafkphhnlifiaa
namespace Ev
set_option linter.unusedVariables false
set_option linter.unusedSimpArgs false

/-- Marks to blocks, with what the block's row has room for. -/
abbrev Ren := Nat → Option (Nat × Nat)
def Ren.le (r r' : Ren) : Prop := ∀ i x, r i = some x → r' i = some x
theorem Ren.le_refl (r : Ren) : r.le r := fun _ _ h => h
theorem Ren.le_trans {a b c : Ren} (h : a.le b) (k : b.le c) : a.le c := fun i x hx => k i x (h i x hx)

mutual
inductive VR (r : Ren) : Value → Value → Prop
  | bool (b) : VR r (.bool b) (.bool b)
  | int (k n) : VR r (.int k n) (.int k n)
  | float (k n) : VR r (.float k n) (.float k n)
  | complex (k a b) : VR r (.complex k a b) (.complex k a b)
  | string (s) : VR r (.string s) (.string s)
  | ptrNil : VR r (.pointer none) (.pointer none)
  | sliceNil (n c) : VR r (.slice none n c) (.slice none n c)
  | mapNil : VR r (.map none) (.map none)
  | chanNil : VR r (.chan none) (.chan none)
  | nilFunc : VR r .nilFunc .nilFunc
  | nilIface : VR r .nilIface .nilIface
  | ptr {i b k} (off sp) (h : r i = some (b, k)) : VR r (.pointer (some ⟨i, off, sp⟩)) (.pointer (some ⟨b, off, sp⟩))
  | map {i b k} (h : r i = some (b, k)) : VR r (.map (some i)) (.map (some b))
  | slice {i b k} (off n c) (h : r i = some (b, k)) (hc : c < big) : VR r (.slice (some ⟨i, off, none⟩) n c) (.slice (some ⟨b, off, none⟩) n c)
  | sliceBig {i b k} (off n c) (h : r i = some (b, k)) (hc : big ≤ c) : VR r (.slice (some ⟨i, off, none⟩) n c) (.slice (some ⟨b, off, none⟩) n (k - (c - big)))
  | sliceEnd {i b k} (off o2 c) (h : r i = some (b, k)) (hc : big ≤ c) : VR r (.slice (some ⟨i, off, some o2⟩) 0 c) (.slice (some ⟨b, if k ≤ c - big then o2 else off, none⟩) 0 (k - (c - big)))
  | yield {i b k} (h : r i = some (b, k)) {xs ys xs' ys'} (hx : LR r xs xs') (hy : LR r ys ys') : VR r (.func (.yield i) ⟨xs⟩ ⟨ys⟩) (.func (.yield b) ⟨xs'⟩ ⟨ys'⟩)
  | func (f) (hf : ∀ l, f ≠ .yield l) {xs ys xs' ys'} (hx : LR r xs xs') (hy : LR r ys ys') : VR r (.func f ⟨xs⟩ ⟨ys⟩) (.func f ⟨xs'⟩ ⟨ys'⟩)
  | iface (t) {v v'} (h : VR r v v') : VR r (.iface t v) (.iface t v')
  | agg {xs xs'} (h : LR r xs xs') : VR r (.agg ⟨xs⟩) (.agg ⟨xs'⟩)
  | tuple {xs xs'} (h : LR r xs xs') : VR r (.tuple ⟨xs⟩) (.tuple ⟨xs'⟩)
inductive LR (r : Ren) : List Value → List Value → Prop
  | nil : LR r [] []
  | cons {v v' l l'} (h : VR r v v') (hl : LR r l l') : LR r (v :: l) (v' :: l')
end

mutual
theorem VR.mono {r r' : Ren} (hr : r.le r') : ∀ {v v'}, VR r v v' → VR r' v v'
  | _, _, .bool b => .bool b
  | _, _, .int k n => .int k n
  | _, _, .float k n => .float k n
  | _, _, .complex k a b => .complex k a b
  | _, _, .string s => .string s
  | _, _, .ptrNil => .ptrNil
  | _, _, .sliceNil n c => .sliceNil n c
  | _, _, .mapNil => .mapNil
  | _, _, .chanNil => .chanNil
  | _, _, .nilFunc => .nilFunc
  | _, _, .nilIface => .nilIface
  | _, _, .ptr off sp h => .ptr off sp (hr _ _ h)
  | _, _, .map h => .map (hr _ _ h)
  | _, _, .slice off n c h hc => .slice off n c (hr _ _ h) hc
  | _, _, .sliceBig off n c h hc => .sliceBig off n c (hr _ _ h) hc
  | _, _, .sliceEnd off o2 c h hc => .sliceEnd off o2 c (hr _ _ h) hc
  | _, _, .yield h hx hy => .yield (hr _ _ h) (LR.mono hr hx) (LR.mono hr hy)
  | _, _, .func f hf hx hy => .func f hf (LR.mono hr hx) (LR.mono hr hy)
  | _, _, .iface t h => .iface t (VR.mono hr h)
  | _, _, .agg h => .agg (LR.mono hr h)
  | _, _, .tuple h => .tuple (LR.mono hr h)
theorem LR.mono {r r' : Ren} (hr : r.le r') : ∀ {l l'}, LR r l l' → LR r' l l'
  | _, _, .nil => .nil
  | _, _, .cons h hl => .cons (VR.mono hr h) (LR.mono hr hl)
end

mutual
theorem VR.closed {r : Ren} : ∀ (v : Value), closedV v = true → VR r v v
  | .bool b, _ => .bool b
  | .int k n, _ => .int k n
  | .float k n, _ => .float k n
  | .complex k a b, _ => .complex k a b
  | .string s, _ => .string s
  | .pointer none, _ => .ptrNil
  | .pointer (some _), h => by simp [closedV] at h
  | .slice none n c, _ => .sliceNil n c
  | .slice (some _) _ _, h => by simp [closedV] at h
  | .map none, _ => .mapNil
  | .map (some _), h => by simp [closedV] at h
  | .chan none, _ => .chanNil
  | .chan (some _), h => by simp [closedV] at h
  | .nilFunc, _ => .nilFunc
  | .nilIface, _ => .nilIface
  | .func (.yield _) _ _, h => by simp [closedV] at h
  | .func (.func f) ⟨xs⟩ ⟨ys⟩, h => .func _ (by simp) (LR.closed xs (by simp [closedV, closedA] at h; exact h.1)) (LR.closed ys (by simp [closedV, closedA] at h; exact h.2))
  | .func (.method f) ⟨xs⟩ ⟨ys⟩, h => .func _ (by simp) (LR.closed xs (by simp [closedV, closedA] at h; exact h.1)) (LR.closed ys (by simp [closedV, closedA] at h; exact h.2))
  | .func (.methodOf t f) ⟨xs⟩ ⟨ys⟩, h => .func _ (by simp) (LR.closed xs (by simp [closedV, closedA] at h; exact h.1)) (LR.closed ys (by simp [closedV, closedA] at h; exact h.2))
  | .func (.via t p f b) ⟨xs⟩ ⟨ys⟩, h => .func _ (by simp) (LR.closed xs (by simp [closedV, closedA] at h; exact h.1)) (LR.closed ys (by simp [closedV, closedA] at h; exact h.2))
  | .iface t v, h => .iface t (VR.closed v (by simpa [closedV] using h))
  | .agg ⟨xs⟩, h => .agg (LR.closed xs (by simpa [closedV, closedA] using h))
  | .tuple ⟨xs⟩, h => .tuple (LR.closed xs (by simpa [closedV, closedA] using h))
theorem LR.closed {r : Ren} : ∀ (l : List Value), closedL l = true → LR r l l
  | [], _ => .nil
  | v :: l, h => .cons (VR.closed v (by simp [closedL] at h; exact h.1)) (LR.closed l (by simp [closedL] at h; exact h.2))
end
mutual
theorem VR.closed_eq {r : Ren} : ∀ {v v' : Value}, VR r v v' → closedV v = true → v' = v
  | _, _, .bool b, _ => rfl
  | _, _, .int k n, _ => rfl
  | _, _, .float k n, _ => rfl
  | _, _, .complex k a b, _ => rfl
  | _, _, .string s, _ => rfl
  | _, _, .ptrNil, _ => rfl
  | _, _, .sliceNil n c, _ => rfl
  | _, _, .mapNil, _ => rfl
  | _, _, .chanNil, _ => rfl
  | _, _, .nilFunc, _ => rfl
  | _, _, .nilIface, _ => rfl
  | _, _, .ptr off sp h, hc => by simp [closedV] at hc
  | _, _, .map h, hc => by simp [closedV] at hc
  | _, _, .slice off n c h _, hc => by simp [closedV] at hc
  | _, _, .sliceBig off n c h _, hc => by simp [closedV] at hc
  | _, _, .sliceEnd off o2 c h _, hc => by simp [closedV] at hc
  | _, _, .yield h hx hy, hc => by simp [closedV] at hc
  | _, _, .func (xs := xs) (ys := ys) f hf hx hy, hc => by
    have hc' : closedL xs = true ∧ closedL ys = true := by
      cases f <;> first | exact absurd rfl (hf _) | simpa [closedV, closedA] using hc
    rw [LR.closed_eq hx hc'.1, LR.closed_eq hy hc'.2]
  | _, _, .iface t h, hc => by rw [VR.closed_eq h (by simpa [closedV] using hc)]
  | _, _, .agg h, hc => by rw [LR.closed_eq h (by simpa [closedV, closedA] using hc)]
  | _, _, .tuple h, hc => by rw [LR.closed_eq h (by simpa [closedV, closedA] using hc)]
theorem LR.closed_eq {r : Ren} : ∀ {l l' : List Value}, LR r l l' → closedL l = true → l' = l
  | _, _, .nil, _ => rfl
  | _, _, .cons h hl, hc => by
    simp [closedL] at hc
    rw [VR.closed_eq h hc.1, LR.closed_eq hl hc.2]
end

theorem LR.length {r : Ren} {l l'} : LR r l l' → l'.length = l.length
  | .nil => rfl
  | .cons _ h => by simp [h.length]
theorem LR.append {r : Ren} {a a' b b'} (h : LR r a a') (k : LR r b b') : LR r (a ++ b) (a' ++ b') := by
  induction a generalizing a' with
  | nil => cases h; exact k
  | cons v a ih => cases h with | cons hv hl => exact .cons hv (ih hl)
theorem LR.drop {r : Ren} : ∀ {l l'} (n : Nat), LR r l l' → LR r (l.drop n) (l'.drop n)
  | _, _, 0, h => h
  | _, _, _ + 1, .nil => .nil
  | _, _, n + 1, .cons _ h => LR.drop n h
theorem LR.take {r : Ren} : ∀ {l l'} (n : Nat), LR r l l' → LR r (l.take n) (l'.take n)
  | _, _, 0, _ => .nil
  | _, _, _ + 1, .nil => .nil
  | _, _, n + 1, .cons h hl => .cons h (LR.take n hl)
theorem LR.at_ {r : Ren} : ∀ {l l'} (n : Nat) {v}, LR r l l' → l[n]? = some v → ∃ v', l'[n]? = some v' ∧ VR r v v'
  | _, _, 0, v, .cons h _, e => by simp at e; subst e; exact ⟨_, rfl, h⟩
  | _, _, n + 1, v, .cons _ hl, e => by simp at e; simpa using LR.at_ n hl e
theorem LR.sub {r : Ren} {l l' : List Value} {off n : Nat} {s : List Value} (h : LR r l l') (hs : sub l off n = some s) :
    LR r s ((l'.drop off).take n) ∧ off + n ≤ l.length ∧ s.length = n := by
  unfold Ev.sub at hs
  cases hb : Nat.ble (off + n) l.length with
  | false => rw [hb] at hs; cases hs
  | true =>
    rw [hb] at hs
    cases hs
    have := Nat.le_of_ble_eq_true hb
    exact ⟨(h.drop off).take n, this, by simp; omega⟩
theorem VR.cells {r : Ren} {v v' : Value} (h : VR r v v') : LR r v.cells.toList v'.cells.toList := by
  have hh := h
  cases h <;> first | (rename_i h; exact h) | exact .cons hh .nil

def getO {α : Type} : Tr α → Nat → Option α
  | .nil, _ => none
  | .node l v r, n => if n = 0 then v else if n % 2 = 1 then getO l (n / 2) else getO r (n / 2 - 1)
theorem beq_dec (a b : Nat) : Nat.beq a b = decide (a = b) := by
  cases hd : Nat.beq a b with
  | true => have := Nat.eq_of_beq_eq_true hd; simp [this]
  | false => have := Nat.ne_of_beq_eq_false hd; simp [this]
theorem getO_nil {α : Type} (m : Nat) : getO (Tr.nil : Tr α) m = none := by cases m <;> rfl
theorem getF_ok {α : Type} : ∀ (f n : Nat) (t : Tr α), n < f → (getF α f n).fn t = getO t n
  | 0, _, _, h => absurd h (Nat.not_lt_zero _)
  | f + 1, n, t, h => by
    have ih := fun n t h => getF_ok (α := α) f n t h
    rw [show getF α (f + 1) n = (bif Nat.beq n 0 then ⟨fun t => Tr.casesOn (motive := fun _ => Option α) t none (fun _ v _ => v)⟩
      else bif Nat.beq (n % 2) 1 then ⟨fun t => Tr.casesOn (motive := fun _ => Option α) t none (fun l _ _ => (getF α f (n / 2)).fn l)⟩
      else ⟨fun t => Tr.casesOn (motive := fun _ => Option α) t none (fun _ _ r => (getF α f (n / 2 - 1)).fn r)⟩) from rfl]
    simp only [beq_dec, cond_eq_ite, decide_eq_true_eq]
    by_cases h0 : n = 0
    · rw [if_pos h0]; cases t <;> simp [getO, h0]
    · rw [if_neg h0]
      by_cases h1 : n % 2 = 1
      · rw [if_pos h1]; cases t <;> simp [getO, h0, h1]; exact ih _ _ (by omega)
      · rw [if_neg h1]; cases t <;> simp [getO, h0, h1]; exact ih _ _ (by omega)
theorem setF_ok {α : Type} : ∀ (f n m : Nat) (t : Tr α) (x : Option α), n < f → getO ((setF α f n).fn x t) m = if m = n then x else getO t m
  | 0, _, _, _, _, h => absurd h (Nat.not_lt_zero _)
  | f + 1, n, m, t, x, h => by
    have ih := fun n m t x h => setF_ok (α := α) f n m t x h
    rw [show setF α (f + 1) n = (bif Nat.beq n 0 then ⟨fun x t => Tr.casesOn (motive := fun _ => Tr α) t (.node .nil x .nil) (fun l _ r => .node l x r)⟩
      else bif Nat.beq (n % 2) 1 then ⟨fun x t => Tr.casesOn (motive := fun _ => Tr α) t (.node ((setF α f (n / 2)).fn x .nil) none .nil) (fun l v r => .node ((setF α f (n / 2)).fn x l) v r)⟩
      else ⟨fun x t => Tr.casesOn (motive := fun _ => Tr α) t (.node .nil none ((setF α f (n / 2 - 1)).fn x .nil)) (fun l v r => .node l v ((setF α f (n / 2 - 1)).fn x r))⟩) from rfl]
    simp only [beq_dec, cond_eq_ite, decide_eq_true_eq]
    by_cases h0 : n = 0
    · rw [if_pos h0]
      subst h0
      cases t <;> simp only [getO, getO_nil] <;> (by_cases hm : m = 0 <;> simp [hm])
    · rw [if_neg h0]
      by_cases h1 : n % 2 = 1
      · rw [if_pos h1]
        cases t <;> simp only [getO, getO_nil, ih _ _ _ _ (by omega : n / 2 < f)] <;> (repeat' split) <;> first | rfl | omega
      · rw [if_neg h1]
        cases t <;> simp only [getO, getO_nil, ih _ _ _ _ (by omega : n / 2 - 1 < f)] <;> (repeat' split) <;> first | rfl | omega
theorem Tr.get_eq {α : Type} (t : Tr α) (n : Nat) : t.get n = getO t n := getF_ok _ _ _ (by omega)
theorem Tr.get_put {α : Type} (t : Tr α) (n m : Nat) (x : Option α) : (t.put n x).get m = if m = n then x else t.get m := by
  rw [Tr.get_eq, Tr.get_eq]
  exact setF_ok _ _ _ _ _ (by omega)
theorem Tr.get_nil {α : Type} (m : Nat) : (Tr.nil : Tr α).get m = none := by rw [Tr.get_eq]; exact getO_nil m
end Ev
end Go.Proofs.Ytgafkphhnlifiaa
