/- Sets of dots as lists of spans: plain functions. No function of the program is named here. Two sets of dots gone through at a time: plain functions. No function of the program is named here. Spans in any order made a past, as the document does it: plain functions. No function of the program is named here. -/
import Derived.Test.YtgafkphhnlifiaaBase
namespace Go.Proofs.Ytgafkphhnlifiaa
section
set_option linter.unusedSimpArgs false
set_option linter.unusedVariables false

abbrev Sp := Int × Int × Int
/-- The first is ahead of the second, and does not touch it. -/
def Ap (x y : Sp) : Prop := x.1 < y.1 ∨ x.1 = y.1 ∧ x.2.2 + 1 < y.2.1
instance (x y : Sp) : Decidable (Ap x y) := by unfold Ap; exact inferInstance
def SpOk (x : Sp) : Prop := x.2.1 ≤ x.2.2
/-- Spans in order, none empty, no two touch. -/
def Norm (l : List Sp) : Prop := (∀ x ∈ l, SpOk x) ∧ l.Pairwise Ap
def InS (x : Sp) (n s : Int) : Prop := x.1 = n ∧ x.2.1 ≤ s ∧ s ≤ x.2.2
instance (x : Sp) (n s : Int) : Decidable (InS x n s) := by unfold InS; exact inferInstance
def Mem (l : List Sp) (n s : Int) : Prop := ∃ x ∈ l, InS x n s
instance (l : List Sp) (n s : Int) : Decidable (Mem l n s) := by unfold Mem; exact inferInstance
theorem mem_nil {n s : Int} : ¬ Mem [] n s := by rintro ⟨x, h, _⟩; exact absurd h (by simp)
theorem mem_cons {x : Sp} {l : List Sp} {n s : Int} : Mem (x :: l) n s ↔ InS x n s ∨ Mem l n s := by
  unfold Mem
  constructor
  · rintro ⟨y, hy, hi⟩
    rcases List.mem_cons.1 hy with rfl | h
    · exact .inl hi
    · exact .inr ⟨y, h, hi⟩
  · rintro (h | ⟨y, hy, hi⟩)
    · exact ⟨x, by simp, h⟩
    · exact ⟨y, by simp [hy], hi⟩
theorem mem_append {l m : List Sp} {n s : Int} : Mem (l ++ m) n s ↔ Mem l n s ∨ Mem m n s := by
  unfold Mem
  constructor
  · rintro ⟨y, hy, hi⟩
    rcases List.mem_append.1 hy with h | h
    · exact .inl ⟨y, h, hi⟩
    · exact .inr ⟨y, h, hi⟩
  · rintro (⟨y, hy, hi⟩ | ⟨y, hy, hi⟩)
    · exact ⟨y, by simp [hy], hi⟩
    · exact ⟨y, by simp [hy], hi⟩
theorem Norm.tail {x : Sp} {l : List Sp} (h : Norm (x :: l)) : Norm l := ⟨fun y hy => h.1 y (by simp [hy]), (List.pairwise_cons.1 h.2).2⟩
theorem Norm.head {x : Sp} {l : List Sp} (h : Norm (x :: l)) : SpOk x ∧ ∀ y ∈ l, Ap x y := ⟨h.1 x (by simp), (List.pairwise_cons.1 h.2).1⟩
theorem norm_nil : Norm [] := ⟨by simp, List.Pairwise.nil⟩
theorem norm_cons {x : Sp} {l : List Sp} (hx : SpOk x) (h : Norm l) (ha : ∀ y ∈ l, Ap x y) : Norm (x :: l) := ⟨fun y hy => by
  rcases List.mem_cons.1 hy with rfl | q
  · exact hx
  · exact h.1 y q, List.pairwise_cons.2 ⟨ha, h.2⟩⟩
theorem Ap.trans {x y z : Sp} (h : Ap x y) (k : Ap y z) (o : SpOk y) : Ap x z := by
  unfold Ap SpOk at *
  omega
/-- What is behind the head is not in it. -/
theorem Norm.out {x : Sp} {l : List Sp} (h : Norm (x :: l)) {n s : Int} (hi : InS x n s) : ¬ Mem l n s := by
  rintro ⟨y, hy, hj⟩
  have a := h.head.2 y hy
  unfold Ap InS at *
  omega
theorem norm_first {x y : Sp} {xs ys : List Sp} (hx : Norm (x :: xs)) (hy : Norm (y :: ys)) (he : ∀ n s, Mem (x :: xs) n s → Mem (y :: ys) n s) : y.1 < x.1 ∨ y.1 = x.1 ∧ y.2.1 ≤ x.2.1 := by
  have ox := hx.head.1
  obtain ⟨z, hz, hi⟩ := he x.1 x.2.1 ⟨x, by simp, rfl, Int.le_refl _, ox⟩
  rcases List.mem_cons.1 hz with rfl | q
  · unfold InS at hi; omega
  · have a := hy.head.2 z q
    have oy := hy.head.1
    unfold Ap InS SpOk at *
    omega
theorem norm_end {x y : Sp} {xs ys : List Sp} (hx : Norm (x :: xs)) (hy : Norm (y :: ys)) (he : ∀ n s, Mem (y :: ys) n s → Mem (x :: xs) n s) (e1 : x.1 = y.1) (e2 : x.2.1 = y.2.1) : y.2.2 ≤ x.2.2 := by
  refine Int.not_lt.1 (fun hlt => ?_)
  have ox := hx.head.1
  obtain ⟨z, hz, hi⟩ := he y.1 (x.2.2 + 1) ⟨y, by simp, rfl, by unfold SpOk at ox; omega, by omega⟩
  rcases List.mem_cons.1 hz with rfl | q
  · unfold InS at hi; omega
  · have a := hx.head.2 z q
    unfold Ap InS at *
    omega
/-- Two such lists with the same dots are one. -/
theorem norm_ext : ∀ {l m : List Sp}, Norm l → Norm m → (∀ n s, Mem l n s ↔ Mem m n s) → l = m
  | [], [], _, _, _ => rfl
  | [], y :: ys, _, hm, he => absurd ((he y.1 y.2.1).2 ⟨y, by simp, rfl, Int.le_refl _, hm.head.1⟩) mem_nil
  | x :: xs, [], hl, _, he => absurd ((he x.1 x.2.1).1 ⟨x, by simp, rfl, Int.le_refl _, hl.head.1⟩) mem_nil
  | x :: xs, y :: ys, hl, hm, he => by
    have a := norm_first hl hm (fun n s => (he n s).1)
    have b := norm_first hm hl (fun n s => (he n s).2)
    have e1 : x.1 = y.1 := by omega
    have e2 : x.2.1 = y.2.1 := by omega
    have c := norm_end hl hm (fun n s => (he n s).2) e1 e2
    have d := norm_end hm hl (fun n s => (he n s).1) e1.symm e2.symm
    have exy : x = y := Prod.ext e1 (Prod.ext e2 (by omega))
    subst exy
    rw [norm_ext hl.tail hm.tail (fun n s => ?_)]
    have q := he n s
    rw [mem_cons, mem_cons] at q
    by_cases hi : InS x n s
    · exact ⟨fun z => absurd z (hl.out hi), fun z => absurd z (hm.out hi)⟩
    · constructor
      · intro z; exact (q.1 (.inr z)).resolve_left hi
      · intro z; exact (q.2 (.inr z)).resolve_left hi
theorem norm_none {l : List Sp} (h : Norm l) (he : ∀ n s, ¬ Mem l n s) : l = [] := norm_ext h norm_nil (fun n s => ⟨fun q => absurd q (he n s), fun q => absurd q mem_nil⟩)
/-- A span comes behind the others, or lengthens the last one. -/
def pushP (out : List Sp) (z : Sp) : List Sp :=
  match out.getLast? with
  | none => [z]
  | some y => if Ap y z then out ++ [z] else out.dropLast ++ [(y.1, y.2.1, max y.2.2 z.2.2)]
/-- The first one's beginning is not behind the second one's. -/
def Le (x y : Sp) : Prop := x.1 < y.1 ∨ x.1 = y.1 ∧ x.2.1 ≤ y.2.1
theorem Le.trans {x y z : Sp} (h : Le x y) (k : Le y z) : Le x z := by unfold Le at *; omega
theorem last_split {l : List Sp} {y : Sp} (h : l.getLast? = some y) : l = l.dropLast ++ [y] := by
  obtain ⟨ys, e⟩ := List.getLast?_eq_some_iff.1 h
  rw [e]; simp
theorem mem_one {z : Sp} {n s : Int} : Mem [z] n s ↔ InS z n s := by
  rw [mem_cons]
  exact ⟨fun q => q.resolve_right mem_nil, .inl⟩
theorem norm_app {l : List Sp} {z : Sp} (h : Norm l) (hz : SpOk z) (ha : ∀ y ∈ l, Ap y z) : Norm (l ++ [z]) := by
  refine ⟨fun x hx => ?_, List.pairwise_append.2 ⟨h.2, by simp, fun a ha' b hb => ?_⟩⟩
  · rcases List.mem_append.1 hx with q | q
    · exact h.1 x q
    · simp at q; subst q; exact hz
  · simp at hb; subst hb; exact ha a ha'
theorem push_norm {out : List Sp} {z : Sp} (h : Norm out) (hz : SpOk z) (hl : ∀ y, out.getLast? = some y → Le y z) : Norm (pushP out z) ∧ (∀ n s, Mem (pushP out z) n s ↔ Mem out n s ∨ InS z n s) ∧ ∃ y, (pushP out z).getLast? = some y ∧ Le y z := by
  unfold pushP
  cases hg : out.getLast? with
  | none =>
    have e : out = [] := List.getLast?_eq_none_iff.1 hg
    subst e
    refine ⟨norm_cons hz norm_nil (by simp), fun n s => ?_, z, rfl, .inr ⟨rfl, Int.le_refl _⟩⟩
    show Mem [z] n s ↔ _
    rw [mem_one]
    exact ⟨.inr, fun q => q.resolve_left mem_nil⟩
  | some y =>
    have es := last_split hg
    have le := hl y hg
    have hym : y ∈ out := by rw [es]; simp
    have hd : ∀ x ∈ out.dropLast, Ap x y := by
      have := h.2
      rw [es] at this
      exact fun x hx => (List.pairwise_append.1 this).2.2 x hx y (by simp)
    simp only
    split
    · rename_i ha
      refine ⟨norm_app h hz (fun x hx => ?_), fun n s => by rw [mem_append, mem_one], z, by simp, .inr ⟨rfl, Int.le_refl _⟩⟩
      rw [es] at hx
      rcases List.mem_append.1 hx with q | q
      · exact (hd x q).trans ha (h.1 y hym)
      · simp at q; subst q; exact ha
    · rename_i ha
      have nd : Norm out.dropLast := by
        have := h
        rw [es] at this
        exact ⟨fun x hx => this.1 x (List.mem_append_left _ hx), (List.pairwise_append.1 this.2).1⟩
      have oy := h.1 y hym
      have fact : y.1 = z.1 ∧ y.2.1 ≤ z.2.1 ∧ z.2.1 ≤ y.2.2 + 1 := by unfold Ap Le at *; omega
      have mx : y.2.2 ≤ max y.2.2 z.2.2 ∧ z.2.2 ≤ max y.2.2 z.2.2 ∧ (max y.2.2 z.2.2 = y.2.2 ∨ max y.2.2 z.2.2 = z.2.2) := by omega
      refine ⟨norm_app nd (by unfold SpOk at *; simp only; omega) (fun x hx => by have := hd x hx; unfold Ap at *; simp only; omega), fun n s => ?_, (y.1, y.2.1, max y.2.2 z.2.2), by simp, by unfold Le at *; simp only; omega⟩
      have e2 : Mem out n s ↔ Mem out.dropLast n s ∨ InS y n s := by
        conv => lhs; rw [es]
        rw [mem_append, mem_one]
      have e3 : InS (y.1, y.2.1, max y.2.2 z.2.2) n s ↔ InS y n s ∨ InS z n s := by unfold InS SpOk at *; simp only; omega
      rw [mem_append, mem_one, e2, e3, or_assoc]
/-- Rising spans, pushed one by one. -/
theorem fold_norm : ∀ {zs out : List Sp}, Norm out → (∀ z ∈ zs, SpOk z) → zs.Pairwise Le → (∀ y z, out.getLast? = some y → z ∈ zs → Le y z) → Norm (zs.foldl pushP out) ∧ ∀ n s, Mem (zs.foldl pushP out) n s ↔ Mem out n s ∨ Mem zs n s
  | [], out, h, _, _, _ => ⟨h, fun n s => ⟨.inl, fun q => q.resolve_right mem_nil⟩⟩
  | z :: zs, out, h, ho, hp, hl => by
    obtain ⟨a, b, y, e, le⟩ := push_norm h (ho z (by simp)) (fun y hy => hl y z hy (by simp))
    have hp' := List.pairwise_cons.1 hp
    obtain ⟨c, d⟩ := fold_norm (zs := zs) a (fun x hx => ho x (by simp [hx])) hp'.2 (fun y' x hy' hx => by rw [e] at hy'; cases hy'; exact le.trans (hp'.1 x hx))
    rw [List.foldl_cons]
    refine ⟨c, fun n s => ?_⟩
    rw [d n s, b n s, mem_cons, or_assoc]
/-- What is left of a span behind another one is taken from it. -/
def wiP (x y : Sp) : List Sp := if y.1 ≠ x.1 ∨ y.2.2 < x.2.1 ∨ x.2.2 < y.2.1 then [y] else (if y.2.1 < x.2.1 then [(y.1, y.2.1, x.2.1 - 1)] else []) ++ (if x.2.2 < y.2.2 then [(y.1, x.2.2 + 1, y.2.2)] else [])
def withoutP (l : List Sp) (x : Sp) : List Sp := l.flatMap (wiP x)
theorem wi_mem {x y : Sp} (hx : SpOk x) {n s : Int} : Mem (wiP x y) n s ↔ InS y n s ∧ ¬ InS x n s := by
  unfold wiP
  have one : ∀ z : Sp, Mem [z] n s ↔ InS z n s := fun z => by rw [mem_cons]; exact ⟨fun q => q.resolve_right mem_nil, .inl⟩
  split
  · rw [one]; unfold InS at *; constructor
    · intro q; exact ⟨q, by omega⟩
    · exact fun q => q.1
  · rw [mem_append]
    have a : Mem (if y.2.1 < x.2.1 then [(y.1, y.2.1, x.2.1 - 1)] else []) n s ↔ y.2.1 < x.2.1 ∧ InS (y.1, y.2.1, x.2.1 - 1) n s := by
      split
      · rename_i h; rw [one]; exact ⟨fun q => ⟨h, q⟩, fun q => q.2⟩
      · rename_i h; exact ⟨fun q => absurd q mem_nil, fun q => absurd q.1 h⟩
    have b : Mem (if x.2.2 < y.2.2 then [(y.1, x.2.2 + 1, y.2.2)] else []) n s ↔ x.2.2 < y.2.2 ∧ InS (y.1, x.2.2 + 1, y.2.2) n s := by
      split
      · rename_i h; rw [one]; exact ⟨fun q => ⟨h, q⟩, fun q => q.2⟩
      · rename_i h; exact ⟨fun q => absurd q mem_nil, fun q => absurd q.1 h⟩
    rw [a, b]
    unfold InS SpOk at *
    simp only
    omega
theorem wi_sub {x y z : Sp} (hx : SpOk x) (hy : SpOk y) (h : z ∈ wiP x y) : SpOk z ∧ z.1 = y.1 ∧ y.2.1 ≤ z.2.1 ∧ z.2.2 ≤ y.2.2 := by
  unfold wiP at h
  unfold SpOk at *
  split at h
  · simp at h; subst h; exact ⟨hy, rfl, Int.le_refl _, Int.le_refl _⟩
  · rename_i hc
    simp only [not_or, Int.not_lt, Decidable.not_not, ne_eq] at hc
    rcases List.mem_append.1 h with q | q
    · split at q
      · simp at q; subst q
        exact ⟨by show y.2.1 ≤ x.2.1 - 1; omega, rfl, Int.le_refl _, by show x.2.1 - 1 ≤ y.2.2; omega⟩
      · simp at q
    · split at q
      · simp at q; subst q
        exact ⟨by show x.2.2 + 1 ≤ y.2.2; omega, rfl, by show y.2.1 ≤ x.2.2 + 1; omega, Int.le_refl _⟩
      · simp at q
theorem wi_norm {x y : Sp} (hx : SpOk x) (hy : SpOk y) : Norm (wiP x y) := by
  refine ⟨fun z hz => (wi_sub hx hy hz).1, ?_⟩
  unfold wiP
  split
  · simp
  · rename_i hc
    simp only [not_or, Int.not_lt, Decidable.not_not, ne_eq] at hc
    refine List.pairwise_append.2 ⟨by split <;> simp, by split <;> simp, fun a ha b hb => ?_⟩
    have ea : a = (y.1, y.2.1, x.2.1 - 1) := by split at ha <;> simp at ha; exact ha
    have eb : b = (y.1, x.2.2 + 1, y.2.2) := by split at hb <;> simp at hb; exact hb
    rw [ea, eb]
    unfold SpOk at hx hy
    exact .inr ⟨rfl, by show x.2.1 - 1 + 1 < x.2.2 + 1; omega⟩
theorem without_norm {x : Sp} (hx : SpOk x) : ∀ {l : List Sp}, Norm l → Norm (withoutP l x) ∧ ∀ n s, Mem (withoutP l x) n s ↔ Mem l n s ∧ ¬ InS x n s
  | [], _ => ⟨norm_nil, fun n s => ⟨fun q => absurd q mem_nil, fun q => absurd q.1 mem_nil⟩⟩
  | y :: l, h => by
    obtain ⟨a, b⟩ := without_norm hx h.tail
    have hy := h.head.1
    have e : withoutP (y :: l) x = wiP x y ++ withoutP l x := rfl
    have inl : ∀ z ∈ withoutP l x, ∃ u ∈ l, z ∈ wiP x u := fun z hz => by
      obtain ⟨u, hu, hz⟩ := List.mem_flatMap.1 hz
      exact ⟨u, hu, hz⟩
    rw [e]
    refine ⟨⟨fun z hz => ?_, List.pairwise_append.2 ⟨(wi_norm hx hy).2, a.2, fun p hp q hq => ?_⟩⟩, fun n s => ?_⟩
    · rcases List.mem_append.1 hz with q | q
      · exact (wi_norm hx hy).1 z q
      · exact a.1 z q
    · obtain ⟨u, hu, hq⟩ := inl q hq
      obtain ⟨_, s1, _, s2⟩ := wi_sub hx hy hp
      obtain ⟨_, t1, t2, _⟩ := wi_sub hx (h.tail.1 u hu) hq
      rcases h.head.2 u hu with ap | ⟨ap, ap2⟩
      · exact .inl (by omega)
      · exact .inr ⟨by omega, by omega⟩
    · rw [mem_append, wi_mem hx, b n s, mem_cons]
      constructor
      · rintro (q | q); exact ⟨.inl q.1, q.2⟩; exact ⟨.inr q.1, q.2⟩
      · rintro ⟨q | q, r⟩; exact .inl ⟨q, r⟩; exact .inr ⟨q, r⟩
theorem withouts_norm : ∀ {b a : List Sp}, (∀ x ∈ b, SpOk x) → Norm a → Norm (b.foldl withoutP a) ∧ ∀ n s, Mem (b.foldl withoutP a) n s ↔ Mem a n s ∧ ¬ Mem b n s
  | [], a, _, h => ⟨h, fun n s => ⟨fun q => ⟨q, mem_nil⟩, fun q => q.1⟩⟩
  | x :: b, a, ho, h => by
    obtain ⟨c, d⟩ := without_norm (ho x (by simp)) h
    obtain ⟨e, f⟩ := withouts_norm (b := b) (fun y hy => ho y (by simp [hy])) c
    rw [List.foldl_cons]
    refine ⟨e, fun n s => ?_⟩
    rw [f n s, d n s, mem_cons]
    constructor
    · rintro ⟨⟨q, r⟩, t⟩; exact ⟨q, by rintro (z | z); exact r z; exact t z⟩
    · rintro ⟨q, r⟩; exact ⟨⟨q, fun z => r (.inl z)⟩, fun z => r (.inr z)⟩
end
section
set_option linter.unusedSimpArgs false
set_option linter.unusedVariables false

/-- A place in a past: what is left of it; behind all spans there is the node 201. -/
def hdP (l : List Sp) : Sp := l.headD (201, 0, 0)
def passP (l : List Sp) (to : Int) : List Sp :=
  match l with
  | [] => []
  | x :: r => if to < x.2.2 then (x.1, to + 1, x.2.2) :: r else r
def untilP (s nx : Sp) : Sp := if s.1 = nx.1 then (s.1, s.2.1, min s.2.2 (nx.2.1 - 1)) else s
def inP (x y : Sp) : Bool := decide (x.1 < y.1 ∨ x.1 = y.1 ∧ x.2.1 ≤ y.2.1)
def pieceP (x y : Sp) : Sp := if inP x y = true ∧ inP y x = true then (x.1, x.2.1, min x.2.2 y.2.2) else if inP x y = true then untilP x y else untilP y x
/-- A past of nodes 1 to 200. -/
def WfC (l : List Sp) : Prop := Norm l ∧ ∀ x ∈ l, 1 ≤ x.1 ∧ x.1 ≤ 200 ∧ 1 ≤ x.2.1 ∧ x.2.2 ≤ 2147483647
/-- All of the second lies behind the end of the first. -/
def Bh (p : Sp) (l : List Sp) : Prop := ∀ z ∈ l, p.1 < z.1 ∨ p.1 = z.1 ∧ p.2.2 < z.2.1
def dotsN (l : List Sp) : Nat := (l.map (fun x => (x.2.2 - x.2.1 + 1).toNat)).sum
/-- How many steps there may be yet. -/
def potP (la lb : List Sp) : Nat := 2 * (la.length + lb.length) + (if (hdP la).1 = (hdP lb).1 ∧ (hdP la).2.1 = (hdP lb).2.1 then 0 else 1)
theorem pot_le (la lb : List Sp) : potP la lb ≤ 2 * (la.length + lb.length) + 1 := by unfold potP; split <;> omega
theorem dots_cons (x : Sp) (l : List Sp) : dotsN (x :: l) = (x.2.2 - x.2.1 + 1).toNat + dotsN l := by simp [dotsN]
theorem bh_out {p : Sp} {l : List Sp} (h : Bh p l) {n s : Int} (hi : InS p n s) : ¬ Mem l n s := by
  rintro ⟨z, hz, hj⟩
  have := h z hz
  unfold InS at *
  omega
theorem bh_head {p y : Sp} {l : List Sp} (h : WfC (y :: l)) (hy : p.1 < y.1 ∨ p.1 = y.1 ∧ p.2.2 < y.2.1) : Bh p (y :: l) := by
  intro z hz
  rcases List.mem_cons.1 hz with rfl | q
  · exact hy
  · have a := h.1.head.2 z q
    have o := h.1.head.1
    unfold Ap SpOk at *
    omega
theorem pass_ok {x : Sp} {r : List Sp} (h : WfC (x :: r)) {to : Int} (h1 : x.2.1 ≤ to) (h2 : to ≤ x.2.2) :
    WfC (passP (x :: r) to) ∧ (∀ n s, Mem (passP (x :: r) to) n s ↔ Mem (x :: r) n s ∧ ¬ InS (x.1, x.2.1, to) n s) ∧ Bh (x.1, x.2.1, to) (passP (x :: r) to) ∧ (∀ n s, InS (x.1, x.2.1, to) n s → Mem (x :: r) n s) ∧ dotsN (passP (x :: r) to) < dotsN (x :: r) := by
  have hx := h.1.head
  have hb := h.2 x (by simp)
  have br : Bh x r := fun z hz => by
    have := hx.2 z hz
    unfold Ap at this
    omega
  have up : ∀ n s, InS (x.1, x.2.1, to) n s → InS x n s := fun n s q => by unfold InS at *; simp only at q; omega
  refine ⟨?_, fun n s => ?_, ?_, fun n s q => mem_cons.2 (.inl (up n s q)), ?_⟩
  · unfold passP
    simp only
    split
    · rename_i hlt
      refine ⟨norm_cons (by unfold SpOk; simp only; omega) h.1.tail (fun z hz => by have := hx.2 z hz; unfold Ap at *; simp only; omega), fun z hz => ?_⟩
      rcases List.mem_cons.1 hz with rfl | q
      · simp only; omega
      · exact h.2 z (by simp [q])
    · exact ⟨h.1.tail, fun z hz => h.2 z (by simp [hz])⟩
  · unfold passP
    simp only
    split
    · rename_i hlt
      rw [mem_cons, mem_cons]
      constructor
      · rintro (q | q)
        · exact ⟨.inl (by unfold InS at *; simp only at q; omega), by unfold InS at *; simp only at q ⊢; omega⟩
        · exact ⟨.inr q, fun z => bh_out br (up n s z) q⟩
      · rintro ⟨q | q, z⟩
        · exact .inl (by unfold InS at *; simp only at z ⊢; omega)
        · exact .inr q
    · rename_i hlt
      have e : to = x.2.2 := by omega
      subst e
      rw [mem_cons]
      constructor
      · intro q
        exact ⟨.inr q, fun z => bh_out br z q⟩
      · rintro ⟨q | q, z⟩
        · exact absurd q z
        · exact q
  · unfold passP
    simp only
    intro z hz
    split at hz
    · rcases List.mem_cons.1 hz with rfl | q
      · exact .inr ⟨rfl, by simp only; omega⟩
      · have := br z q; simp only; omega
    · have := br z hz; simp only; omega
  · unfold passP
    simp only
    have o := hx.1
    unfold SpOk at o
    split
    · rw [dots_cons, dots_cons]; simp only; omega
    · rw [dots_cons]; omega
theorem pass_len (x : Sp) (r : List Sp) (to : Int) : (passP (x :: r) to).length = if to < x.2.2 then r.length + 1 else r.length := by unfold passP; simp only; split <;> simp
theorem hd_nil : hdP [] = (201, 0, 0) := rfl
theorem hd_cons (x : Sp) (l : List Sp) : hdP (x :: l) = x := rfl
/-- What a step leaves of a past that has, or has not, the piece. -/
def leftP (l : List Sp) (i : Bool) (to : Int) : List Sp := if i = true then passP l to else l
structure StepOk (la lb : List Sp) (p : Sp) (ia ib : Bool) (la' lb' : List Sp) : Prop where
  ok : SpOk p ∧ 1 ≤ p.1 ∧ p.1 ≤ 200 ∧ 1 ≤ p.2.1 ∧ p.2.2 ≤ 2147483647
  wa : WfC la'
  wb : WfC lb'
  ina : ∀ n s, InS p n s → (Mem la n s ↔ ia = true)
  inb : ∀ n s, InS p n s → (Mem lb n s ↔ ib = true)
  ma : ∀ n s, Mem la' n s ↔ Mem la n s ∧ ¬ InS p n s
  mb : ∀ n s, Mem lb' n s ↔ Mem lb n s ∧ ¬ InS p n s
  ba : Bh p la'
  bb : Bh p lb'
  dec : dotsN la' + dotsN lb' < dotsN la + dotsN lb
  pot : potP la' lb' < potP la lb
  sub : (∃ z ∈ la, z.1 = p.1 ∧ z.2.1 ≤ p.2.1 ∧ p.2.2 ≤ z.2.2) ∨ ∃ z ∈ lb, z.1 = p.1 ∧ z.2.1 ≤ p.2.1 ∧ p.2.2 ≤ z.2.2
theorem pot_comm (la lb : List Sp) : potP la lb = potP lb la := by
  unfold potP
  have e : ((hdP la).1 = (hdP lb).1 ∧ (hdP la).2.1 = (hdP lb).2.1) = ((hdP lb).1 = (hdP la).1 ∧ (hdP lb).2.1 = (hdP la).2.1) := propext ⟨fun h => ⟨h.1.symm, h.2.symm⟩, fun h => ⟨h.1.symm, h.2.symm⟩⟩
  simp only [e, Nat.add_comm la.length]
theorem StepOk.swap {la lb : List Sp} {p : Sp} {ia ib : Bool} {la' lb' : List Sp} (h : StepOk la lb p ia ib la' lb') : StepOk lb la p ib ia lb' la' :=
  ⟨h.ok, h.wb, h.wa, h.inb, h.ina, h.mb, h.ma, h.bb, h.ba, by have := h.dec; omega, by rw [pot_comm, pot_comm lb]; exact h.pot, h.sub.symm⟩
theorem step_both {x y : Sp} {xs ys : List Sp} (ha : WfC (x :: xs)) (hb : WfC (y :: ys)) (e1 : x.1 = y.1) (e2 : x.2.1 = y.2.1) :
    StepOk (x :: xs) (y :: ys) (x.1, x.2.1, min x.2.2 y.2.2) true true (passP (x :: xs) (min x.2.2 y.2.2)) (passP (y :: ys) (min x.2.2 y.2.2)) := by
  have ox := ha.1.head.1
  have oy := hb.1.head.1
  have bx := ha.2 x (by simp)
  unfold SpOk at ox oy
  obtain ⟨a1, a2, a3, a4, a5⟩ := pass_ok ha (to := min x.2.2 y.2.2) (by omega) (by omega)
  obtain ⟨b1, b2, b3, b4, b5⟩ := pass_ok hb (to := min x.2.2 y.2.2) (by omega) (by omega)
  have PB : potP (passP (x :: xs) (min x.2.2 y.2.2)) (passP (y :: ys) (min x.2.2 y.2.2)) < potP (x :: xs) (y :: ys) := by
    have e0 : potP (x :: xs) (y :: ys) = 2 * (xs.length + 1 + (ys.length + 1)) := by unfold potP; rw [hd_cons, hd_cons, if_pos ⟨e1, e2⟩]; rfl
    refine Nat.lt_of_le_of_lt (pot_le _ _) ?_
    rw [e0, pass_len, pass_len]
    split <;> split <;> omega
  rw [← e1, ← e2] at b2 b3 b4
  exact ⟨⟨by unfold SpOk; simp only; omega, bx.1, bx.2.1, bx.2.2.1, by simp only; omega⟩, a1, b1, fun n s q => ⟨fun _ => rfl, fun _ => a4 n s q⟩, fun n s q => ⟨fun _ => rfl, fun _ => b4 n s q⟩, a2, b2, a3, b3, by omega, PB, .inl ⟨x, by simp, rfl, Int.le_refl _, by simp only; omega⟩⟩
theorem step_one {x : Sp} {xs lb : List Sp} (ha : WfC (x :: xs)) (hb : WfC lb) (to : Int) (h1 : x.2.1 ≤ to) (h2 : to ≤ x.2.2) (hl : Bh (x.1, x.2.1, to) lb) (hu : ¬ (x.1 = (hdP lb).1 ∧ x.2.1 = (hdP lb).2.1)) (hal : to = x.2.2 ∨ x.1 = (hdP lb).1 ∧ to + 1 = (hdP lb).2.1) : StepOk (x :: xs) lb (x.1, x.2.1, to) true false (passP (x :: xs) to) lb := by
  have bx := ha.2 x (by simp)
  obtain ⟨a1, a2, a3, a4, a5⟩ := pass_ok ha h1 h2
  have PB : potP (passP (x :: xs) to) lb < potP (x :: xs) lb := by
    have e0 : potP (x :: xs) lb = 2 * (xs.length + 1 + lb.length) + 1 := by unfold potP; rw [hd_cons, if_neg hu]; rfl
    rw [e0]
    by_cases hlt : to < x.2.2
    · have hp : passP (x :: xs) to = (x.1, to + 1, x.2.2) :: xs := by unfold passP; simp only; rw [if_pos hlt]
      rw [hp]
      unfold potP
      rw [hd_cons, if_pos (by rcases hal with h | h; exact absurd h (by omega); exact h)]
      simp only [List.length_cons]
      omega
    · refine Nat.lt_of_le_of_lt (pot_le _ _) ?_
      rw [pass_len, if_neg hlt]
      omega
  exact ⟨⟨by unfold SpOk; exact h1, bx.1, bx.2.1, bx.2.2.1, by simp only; omega⟩, a1, hb, fun n s q => ⟨fun _ => rfl, fun _ => a4 n s q⟩, fun n s q => ⟨fun z => absurd z (bh_out hl q), fun z => absurd z (by simp)⟩, a2, fun n s => ⟨fun z => ⟨z, fun q => bh_out hl q z⟩, fun z => z.1⟩, a3, hl, by omega, PB, .inl ⟨x, by simp, rfl, Int.le_refl _, h2⟩⟩
theorem piece_one {x y : Sp} (h : inP x y = true) (h' : inP y x = false) : pieceP x y = (x.1, x.2.1, if x.1 = y.1 then min x.2.2 (y.2.1 - 1) else x.2.2) := by
  unfold pieceP
  rw [if_neg (by simp [h']), if_pos h]
  unfold untilP
  split <;> rfl
theorem piece_other {x y : Sp} (h : inP x y = false) (h' : inP y x = true) : pieceP x y = pieceP y x := by
  unfold pieceP
  rw [if_neg (by simp [h]), if_neg (by simp [h]), if_neg (by simp [h]), if_pos h']
theorem step_first {x : Sp} {xs lb : List Sp} (ha : WfC (x :: xs)) (hb : WfC lb) (h : inP x (hdP lb) = true) (h' : inP (hdP lb) x = false) :
    StepOk (x :: xs) lb (pieceP x (hdP lb)) true false (passP (x :: xs) (pieceP x (hdP lb)).2.2) lb := by
  rw [piece_one h h']
  have ox := ha.1.head.1
  have bx := ha.2 x (by simp)
  unfold SpOk at ox
  simp only [inP, decide_eq_true_eq, decide_eq_false_iff_not] at h h'
  cases lb with
  | nil =>
    rw [hd_nil] at *
    rw [if_neg (by simp only; omega)]
    exact step_one ha hb _ ox (Int.le_refl _) (fun z hz => absurd hz (by simp)) (by rw [hd_nil]; simp only; omega) (.inl rfl)
  | cons y ys =>
    rw [hd_cons] at *
    refine step_one ha hb _ ?_ ?_ (bh_head hb ?_) (by rw [hd_cons]; omega) (by rw [hd_cons]; split <;> omega)
    · split <;> omega
    · split <;> omega
    · simp only
      split <;> omega
/-- A step: the next dots that are all in the same ones of both pasts. -/
theorem step_ok {la lb : List Sp} (ha : WfC la) (hb : WfC lb) (hne : la ≠ [] ∨ lb ≠ []) :
    StepOk la lb (pieceP (hdP la) (hdP lb)) (inP (hdP la) (hdP lb)) (inP (hdP lb) (hdP la)) (leftP la (inP (hdP la) (hdP lb)) (pieceP (hdP la) (hdP lb)).2.2) (leftP lb (inP (hdP lb) (hdP la)) (pieceP (hdP la) (hdP lb)).2.2) := by
  have tri : inP (hdP la) (hdP lb) = true ∨ inP (hdP lb) (hdP la) = true := by
    simp only [inP, decide_eq_true_eq]; omega
  cases h1 : inP (hdP la) (hdP lb) with
  | true =>
    cases h2 : inP (hdP lb) (hdP la) with
    | true =>
      have q1 := h1
      have q2 := h2
      simp only [inP, decide_eq_true_eq] at q1 q2
      cases la with
      | nil =>
        cases lb with
        | nil => exact absurd rfl (hne.elim id id)
        | cons y ys => have := hb.2 y (by simp); rw [hd_nil, hd_cons] at q1 q2; simp only at q1 q2; omega
      | cons x xs =>
        cases lb with
        | nil => have := ha.2 x (by simp); rw [hd_nil, hd_cons] at q1 q2; simp only at q1 q2; omega
        | cons y ys =>
          rw [hd_cons, hd_cons] at *
          have e : pieceP x y = (x.1, x.2.1, min x.2.2 y.2.2) := by unfold pieceP; rw [if_pos ⟨h1, h2⟩]
          rw [e]
          exact step_both ha hb (by omega) (by omega)
    | false =>
      cases la with
      | nil =>
        have q1 := h1
        have q2 := h2
        simp only [inP, decide_eq_true_eq, decide_eq_false_iff_not] at q1 q2
        cases lb with
        | nil => exact absurd rfl (hne.elim id id)
        | cons y ys => have := hb.2 y (by simp); rw [hd_nil, hd_cons] at q1 q2; simp only at q1 q2; omega
      | cons x xs => exact step_first ha hb h1 h2
  | false =>
    have h2 := tri.resolve_left (by simp [h1])
    rw [h2]
    cases lb with
    | nil =>
      have q1 := h1
      have q2 := h2
      simp only [inP, decide_eq_true_eq, decide_eq_false_iff_not] at q1 q2
      cases la with
      | nil => exact absurd rfl (hne.elim id id)
      | cons y ys => have := ha.2 y (by simp); rw [hd_nil, hd_cons] at q1 q2; simp only at q1 q2; omega
    | cons y ys =>
      rw [hd_cons] at *
      rw [piece_other h1 h2]
      exact (step_first hb ha h2 h1).swap
def memb (l : List Sp) (n s : Int) : Bool := decide (Mem l n s)
/-- Where a sweep stands: what was kept, what is left. -/
structure SwInv (k : Bool → Bool → Bool) (a b la lb pre : List Sp) : Prop where
  wa : WfC la
  wb : WfC lb
  ok : ∀ z ∈ pre, SpOk z
  up : pre.Pairwise Le
  ba : ∀ p ∈ pre, Bh p la
  bb : ∀ p ∈ pre, Bh p lb
  cnt : pre.length + potP la lb ≤ potP a b
  m : ∀ n s, k (memb a n s) (memb b n s) = true ↔ Mem pre n s ∨ k (memb la n s) (memb lb n s) = true
theorem SwInv.begin {k : Bool → Bool → Bool} {a b : List Sp} (ha : WfC a) (hb : WfC b) : SwInv k a b a b [] :=
  ⟨ha, hb, by simp, List.Pairwise.nil, by simp, by simp, by simp, fun n s => ⟨.inr, fun q => q.resolve_left mem_nil⟩⟩
theorem bh_mono {p : Sp} {l l' : List Sp} (hp : SpOk p) (h : Bh p l) (hn : WfC l') (hs : ∀ n s, Mem l' n s → Mem l n s) : Bh p l' := by
  intro z hz
  have oz := hn.1.1 z hz
  obtain ⟨y, hy, hi⟩ := hs z.1 z.2.1 ⟨z, hz, rfl, Int.le_refl _, oz⟩
  have := h y hy
  unfold InS SpOk at *
  omega
theorem SwInv.step {k : Bool → Bool → Bool} (hk : k false false = false) {a b la lb pre : List Sp} (h : SwInv k a b la lb pre) {p : Sp} {ia ib : Bool} {la' lb' : List Sp} (q : StepOk la lb p ia ib la' lb') : SwInv k a b la' lb' (if k ia ib = true then pre ++ [p] else pre) := by
  have core : ∀ n s, (k (memb la n s) (memb lb n s) = true) ↔ (k ia ib = true ∧ InS p n s) ∨ k (memb la' n s) (memb lb' n s) = true := by
    intro n s
    have ma := q.ma n s
    have mb := q.mb n s
    by_cases hi : InS p n s
    · have ea : memb la n s = ia := by
        have := q.ina n s hi
        unfold memb
        cases ia <;> simp_all
      have eb : memb lb n s = ib := by
        have := q.inb n s hi
        unfold memb
        cases ib <;> simp_all
      have ea' : memb la' n s = false := by unfold memb; simp [ma, hi]
      have eb' : memb lb' n s = false := by unfold memb; simp [mb, hi]
      rw [ea, eb, ea', eb', hk]
      exact ⟨fun z => .inl ⟨z, hi⟩, fun z => z.elim (fun y => y.1) (fun y => absurd y (by simp))⟩
    · have ea' : memb la' n s = memb la n s := by unfold memb; simp [ma, hi]
      have eb' : memb lb' n s = memb lb n s := by unfold memb; simp [mb, hi]
      rw [ea', eb']
      exact ⟨.inr, fun z => z.elim (fun y => absurd y.2 hi) id⟩
  have subA : ∀ n s, Mem la' n s → Mem la n s := fun n s z => ((q.ma n s).1 z).1
  have subB : ∀ n s, Mem lb' n s → Mem lb n s := fun n s z => ((q.mb n s).1 z).1
  have oldA : ∀ x ∈ pre, Bh x la' := fun x hx => bh_mono (h.ok x hx) (h.ba x hx) q.wa subA
  have oldB : ∀ x ∈ pre, Bh x lb' := fun x hx => bh_mono (h.ok x hx) (h.bb x hx) q.wb subB
  by_cases hkk : k ia ib = true
  · rw [if_pos hkk]
    have le : ∀ x ∈ pre, Le x p := fun x hx => by
      have ox := h.ok x hx
      rcases q.sub with ⟨z, hz, e1, e2, e3⟩ | ⟨z, hz, e1, e2, e3⟩
      · have := h.ba x hx z hz; unfold Le SpOk at *; omega
      · have := h.bb x hx z hz; unfold Le SpOk at *; omega
    refine ⟨q.wa, q.wb, fun z hz => ?_, List.pairwise_append.2 ⟨h.up, by simp, fun x hx y hy => by simp at hy; subst hy; exact le x hx⟩, fun x hx => ?_, fun x hx => ?_, by have := q.pot; have := h.cnt; simp; omega, fun n s => ?_⟩
    · rcases List.mem_append.1 hz with w | w
      · exact h.ok z w
      · simp at w; subst w; exact q.ok.1
    · rcases List.mem_append.1 hx with w | w
      · exact oldA x w
      · simp at w; subst w; exact q.ba
    · rcases List.mem_append.1 hx with w | w
      · exact oldB x w
      · simp at w; subst w; exact q.bb
    · rw [h.m n s, core n s, mem_append, mem_one]
      constructor
      · rintro (z | z | z); exact .inl (.inl z); exact .inl (.inr z.2); exact .inr z
      · rintro ((z | z) | z); exact .inl z; exact .inr (.inl ⟨hkk, z⟩); exact .inr (.inr z)
  · rw [if_neg hkk]
    refine ⟨q.wa, q.wb, h.ok, h.up, oldA, oldB, by have := q.pot; have := h.cnt; omega, fun n s => ?_⟩
    rw [h.m n s, core n s]
    constructor
    · rintro (z | z | z); exact .inl z; exact absurd z.1 hkk; exact .inr z
    · rintro (z | z); exact .inl z; exact .inr (.inr z)
/-- Behind all: just the dots of which the func says yes, in order. -/
theorem SwInv.done {k : Bool → Bool → Bool} (hk : k false false = false) {a b pre : List Sp} (h : SwInv k a b [] [] pre) : Norm (pre.foldl pushP []) ∧ ∀ n s, Mem (pre.foldl pushP []) n s ↔ k (memb a n s) (memb b n s) = true := by
  obtain ⟨c, d⟩ := fold_norm (zs := pre) norm_nil h.ok h.up (by simp)
  refine ⟨c, fun n s => ?_⟩
  rw [d n s, h.m n s]
  have e : memb [] n s = false := by unfold memb; simp [mem_nil]
  rw [e, hk]
  exact ⟨fun q => .inl (q.resolve_left mem_nil), fun q => .inr (q.resolve_right (by simp))⟩
end
section
set_option linter.unusedSimpArgs false
set_option linter.unusedVariables false

/-- One comes ahead of the other one. -/
def Lt3 (x y : Sp) : Prop := x.1 < y.1 ∨ x.1 = y.1 ∧ (x.2.1 < y.2.1 ∨ x.2.1 = y.2.1 ∧ x.2.2 < y.2.2)
instance (x y : Sp) : Decidable (Lt3 x y) := by unfold Lt3; exact inferInstance
def cntS (x : Sp) : List Sp → Nat
  | [] => 0
  | y :: l => if Lt3 y x then cntS x l + 1 else 0
def insS (x : Sp) (l : List Sp) : List Sp := l.take (cntS x l) ++ x :: l.drop (cntS x l)
def riseS (l : List Sp) : List Sp := l.foldl (fun r x => insS x r) []
def tidyS (l : List Sp) : List Sp := (riseS l).foldl pushP []
theorem cntS_le (x : Sp) : ∀ l, cntS x l ≤ l.length
  | [] => Nat.le_refl _
  | y :: l => by unfold cntS; split <;> have := cntS_le x l <;> simp <;> omega
theorem cntS_lt (x : Sp) : ∀ (l : List Sp) (i : Nat) (y : Sp), l[i]? = some y → i < cntS x l → Lt3 y x
  | [], i, y, h, _ => by simp at h
  | z :: l, 0, y, h, hi => by
    simp at h; subst h
    unfold cntS at hi
    split at hi
    · assumption
    · omega
  | z :: l, i + 1, y, h, hi => by
    unfold cntS at hi
    split at hi
    · exact cntS_lt x l i y (by simpa using h) (by omega)
    · omega
theorem cntS_at (x : Sp) : ∀ (l : List Sp) (y : Sp), l[cntS x l]? = some y → ¬ Lt3 y x
  | [], y, h => by simp at h
  | z :: l, y, h => by
    unfold cntS at h
    split at h
    · exact cntS_at x l y (by simpa using h)
    · simp at h; subst h; assumption
theorem cntS_is (x : Sp) (l : List Sp) (k : Nat) (h1 : ∀ i y, l[i]? = some y → i < k → Lt3 y x) (hk : k ≤ l.length) (h2 : ∀ y, l[k]? = some y → ¬ Lt3 y x) : cntS x l = k := by
  rcases Nat.lt_trichotomy (cntS x l) k with h | h | h
  · have hlt : cntS x l < l.length := by omega
    exact absurd (h1 _ _ (List.getElem?_eq_getElem hlt) h) (cntS_at x l _ (List.getElem?_eq_getElem hlt))
  · exact h
  · have hlt : k < l.length := by have := cntS_le x l; omega
    exact absurd (cntS_lt x l k _ (List.getElem?_eq_getElem hlt) h) (h2 _ (List.getElem?_eq_getElem hlt))
theorem insS_len (x : Sp) (l : List Sp) : (insS x l).length = l.length + 1 := by
  unfold insS
  have := cntS_le x l
  simp; omega
theorem insS_mem (x y : Sp) (l : List Sp) : y ∈ insS x l ↔ y = x ∨ y ∈ l := by
  unfold insS
  rw [List.mem_append, List.mem_cons]
  conv => rhs; rw [← List.take_append_drop (cntS x l) l, List.mem_append]
  constructor
  · rintro (h | h | h)
    · exact .inr (.inl h)
    · exact .inl h
    · exact .inr (.inr h)
  · rintro (h | h | h)
    · exact .inr (.inl h)
    · exact .inl h
    · exact .inr (.inr h)
def Ge3 (x y : Sp) : Prop := ¬ Lt3 y x
theorem Ge3.le {x y : Sp} (h : Ge3 x y) : Le x y := by unfold Ge3 Lt3 Le at *; omega
theorem insS_up (x : Sp) (l : List Sp) (h : l.Pairwise Ge3) : (insS x l).Pairwise Ge3 := by
  unfold insS
  have hs : (l.take (cntS x l) ++ l.drop (cntS x l)).Pairwise Ge3 := by rw [List.take_append_drop]; exact h
  rw [List.pairwise_append] at hs ⊢
  obtain ⟨a, b, c⟩ := hs
  have hd : ∀ y ∈ l.drop (cntS x l), Ge3 x y := by
    cases hdr : l.drop (cntS x l) with
    | nil => simp
    | cons z r =>
      have hz : l[cntS x l]? = some z := by
        have : (l.drop (cntS x l))[0]? = some z := by rw [hdr]; rfl
        simpa using this
      have hg : Ge3 x z := cntS_at x l z hz
      rw [hdr] at b
      intro y hy
      rcases List.mem_cons.1 hy with rfl | q
      · exact hg
      · have := (List.pairwise_cons.1 b).1 y q
        unfold Ge3 Lt3 at *
        omega
  have ht : ∀ y ∈ l.take (cntS x l), Lt3 y x := fun y hy => by
    obtain ⟨i, hi, rfl⟩ := List.getElem_of_mem hy
    rw [List.length_take] at hi
    rw [List.getElem_take]
    exact cntS_lt x l i _ (List.getElem?_eq_getElem (by omega)) (by omega)
  refine ⟨a, List.pairwise_cons.2 ⟨hd, b⟩, fun y hy z hz => ?_⟩
  rcases List.mem_cons.1 hz with rfl | q
  · have := ht y hy
    unfold Ge3 Lt3 at *
    omega
  · exact c y hy z q
theorem fold_ins : ∀ (l r : List Sp), r.Pairwise Ge3 → (l.foldl (fun r x => insS x r) r).Pairwise Ge3 ∧ (∀ y, y ∈ l.foldl (fun r x => insS x r) r ↔ y ∈ l ∨ y ∈ r) ∧ (l.foldl (fun r x => insS x r) r).length = l.length + r.length
  | [], r, h => ⟨h, by simp, by simp⟩
  | x :: l, r, h => by
    obtain ⟨a, b, c⟩ := fold_ins l (insS x r) (insS_up x r h)
    rw [List.foldl_cons]
    refine ⟨a, fun y => ?_, by rw [c, insS_len]; simp; omega⟩
    rw [b y, insS_mem, List.mem_cons]
    constructor
    · rintro (q | q | q); exact .inl (.inr q); exact .inl (.inl q); exact .inr q
    · rintro ((q | q) | q); exact .inr (.inl q); exact .inl q; exact .inr (.inr q)
theorem rise_props (l : List Sp) : (riseS l).Pairwise Ge3 ∧ (∀ y, y ∈ riseS l ↔ y ∈ l) ∧ (riseS l).length = l.length := by
  obtain ⟨a, b, c⟩ := fold_ins l [] List.Pairwise.nil
  exact ⟨a, fun y => by rw [show riseS l = l.foldl (fun r x => insS x r) [] from rfl, b y]; simp, by rw [show riseS l = l.foldl (fun r x => insS x r) [] from rfl, c]; simp⟩
theorem rise_snoc (l : List Sp) (x : Sp) : riseS (l ++ [x]) = insS x (riseS l) := by simp [riseS]
theorem pair_le {l : List Sp} (h : l.Pairwise Ge3) : l.Pairwise Le := h.imp (fun q => q.le)
theorem mem_same {l m : List Sp} (h : ∀ y, y ∈ l ↔ y ∈ m) (n s : Int) : Mem l n s ↔ Mem m n s := ⟨fun ⟨x, hx, hi⟩ => ⟨x, (h x).1 hx, hi⟩, fun ⟨x, hx, hi⟩ => ⟨x, (h x).2 hx, hi⟩⟩
theorem tidy_norm {l : List Sp} (h : ∀ x ∈ l, SpOk x) : Norm (tidyS l) ∧ ∀ n s, Mem (tidyS l) n s ↔ Mem l n s := by
  obtain ⟨a, b, c⟩ := rise_props l
  obtain ⟨d, e⟩ := fold_norm (zs := riseS l) norm_nil (fun z hz => h z ((b z).1 hz)) (pair_le a) (by simp)
  exact ⟨d, fun n s => by rw [show tidyS l = (riseS l).foldl pushP [] from rfl, e n s, mem_same b n s]; exact ⟨fun q => q.resolve_left mem_nil, .inr⟩⟩
/-- All numbers are small. -/
def B3 (x : Sp) : Prop := 1 ≤ x.1 ∧ x.1 ≤ 200 ∧ 1 ≤ x.2.1 ∧ x.2.1 ≤ x.2.2 ∧ x.2.2 ≤ 2147483647
theorem drop_set {l : List Sp} {y : Sp} (h : l.getLast? = some y) (z : Sp) : l.dropLast ++ [z] = l.set (l.length - 1) z := by
  have es := last_split h
  rw [es]
  simp
theorem push_props {out : List Sp} {z : Sp} (h : ∀ x ∈ out, B3 x) (hz : B3 z) : (∀ x ∈ pushP out z, B3 x) ∧ (pushP out z).length ≤ out.length + 1 := by
  unfold pushP
  cases hg : out.getLast? with
  | none => exact ⟨fun x hx => by simp at hx; subst hx; exact hz, by simp⟩
  | some y =>
    have es := last_split hg
    have hy : B3 y := h y (by rw [es]; simp)
    simp only
    split
    · refine ⟨fun x hx => ?_, by simp⟩
      rcases List.mem_append.1 hx with q | q
      · exact h x q
      · simp at q; subst q; exact hz
    · refine ⟨fun x hx => ?_, by rw [drop_set hg, List.length_set]; omega⟩
      rcases List.mem_append.1 hx with q | q
      · exact h x (List.dropLast_subset _ q)
      · simp at q; subst q; unfold B3 at *; simp only; omega
theorem fold_props : ∀ (zs out : List Sp), (∀ x ∈ out, B3 x) → (∀ x ∈ zs, B3 x) → (∀ x ∈ zs.foldl pushP out, B3 x) ∧ (zs.foldl pushP out).length ≤ out.length + zs.length
  | [], out, h, _ => ⟨h, by simp⟩
  | z :: zs, out, h, hz => by
    obtain ⟨a, b⟩ := push_props h (hz z (by simp))
    obtain ⟨c, d⟩ := fold_props zs (pushP out z) a (fun x hx => hz x (by simp [hx]))
    rw [List.foldl_cons]
    exact ⟨c, by simp; omega⟩
/-- The last of what was pushed begins no later than the next. -/
theorem fold_last : ∀ (zs out : List Sp) (z : Sp), Norm out → (∀ x ∈ zs, SpOk x) → zs.Pairwise Le → (∀ x ∈ zs, Le x z) → (∀ y x, out.getLast? = some y → x ∈ zs → Le y x) → (∀ y, out.getLast? = some y → Le y z) → ∀ y, (zs.foldl pushP out).getLast? = some y → Le y z
  | [], out, z, _, _, _, _, _, h => h
  | x :: zs, out, z, hn, ho, hp, hz, hl, _ => by
    obtain ⟨a, b, y, e, le⟩ := push_norm hn (ho x (by simp)) (fun y hy => hl y x hy (by simp))
    have hp' := List.pairwise_cons.1 hp
    rw [List.foldl_cons]
    exact fold_last zs _ z a (fun u hu => ho u (by simp [hu])) hp'.2 (fun u hu => hz u (by simp [hu])) (fun y' u hy' hu => by rw [e] at hy'; cases hy'; exact le.trans (hp'.1 u hu)) (fun y' hy' => by rw [e] at hy'; cases hy'; exact le.trans (hz x (by simp)))
theorem last_at {l : List Sp} {y : Sp} (h : l[l.length - 1]? = some y) : l.getLast? = some y := by rw [List.getLast?_eq_getElem?]; exact h
theorem push_apart' {out : List Sp} {y z : Sp} (h : out[out.length - 1]? = some y) (ha : Ap y z) : pushP out z = out ++ [z] := by
  unfold pushP; rw [last_at h]; simp only; rw [if_pos ha]
theorem push_touch {out : List Sp} {y z : Sp} (h : out[out.length - 1]? = some y) (ha : ¬ Ap y z) : pushP out z = out.set (out.length - 1) (y.1, y.2.1, max y.2.2 z.2.2) := by
  unfold pushP; rw [last_at h]; simp only; rw [if_neg ha, drop_set (last_at h)]
theorem push_none (z : Sp) : pushP [] z = [z] := rfl
end
end Go.Proofs.Ytgafkphhnlifiaa
