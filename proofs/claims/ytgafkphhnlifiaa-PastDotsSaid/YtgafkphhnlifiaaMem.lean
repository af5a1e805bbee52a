/- New blocks, and the world behind them, under one name. -/
import Derived.Test.YtgafkphhnlifiaaBase
import Derived.OrdersHeld
namespace Go.Proofs.Ytgafkphhnlifiaa
open Go.RowKit

theorem news1 (w : World) (o : Obj) : ∃ w' : World, w' = w.alloc o ∧ Chg [] w w' ∧ w'.heap[w.heap.size]? = some o := ⟨_, rfl, (Chg.refl [] w).alloc _, heap_alloc_new w o⟩
theorem news2 (w : World) (o o' : Obj) : ∃ w' : World, w' = (w.alloc o).alloc o' ∧ Chg [] w w' ∧ w'.heap[w.heap.size]? = some o ∧ w'.heap[w.heap.size + 1]? = some o' :=
  ⟨_, rfl, ((Chg.refl [] w).alloc _).alloc _, ((Chg.refl [] _).alloc o').at_ (heap_alloc_new w o) (by simp), heap_alloc_two w o o'⟩
theorem news3 (w : World) (o o' o'' : Obj) : ∃ w' : World, w' = ((w.alloc o).alloc o').alloc o'' ∧ Chg [] w w' ∧ w'.heap[w.heap.size]? = some o ∧ w'.heap[w.heap.size + 1]? = some o' ∧ w'.heap[w.heap.size + 2]? = some o'' := by
  refine ⟨_, rfl, (((Chg.refl [] w).alloc _).alloc _).alloc _, ?_, ?_, ?_⟩
  · exact ((Chg.refl [] _).alloc o'').at_ (((Chg.refl [] _).alloc o').at_ (heap_alloc_new w o) (by simp)) (by simp)
  · exact ((Chg.refl [] _).alloc o'').at_ (heap_alloc_two w o o') (by simp)
  · have := heap_alloc_two (w.alloc o) o' o''
    rwa [World.size_alloc] at this
/-- A store into a block that is new since w. -/
theorem Chg.put {w w' : World} {s : Nat} (h : Chg [] w w') (hs : w.heap.size ≤ s) (j : Nat) (v : Value) : Chg [] w (w'.setCell ⟨s, j, none⟩ v) := h.setCell (.inr hs) _
theorem Chg.put' {w w' : World} {s : Nat} (h : Chg [s] w w') (j : Nat) (v : Value) : Chg [s] w (w'.setCell ⟨s, j, none⟩ v) := h.setCell (.inl (by simp)) _

/-- The block of an address, if there is one. -/
def blkOf (A : Option Addr) : List Nat := A.toList.map (·.block)
theorem mem_blkOf {A : Option Addr} {a : Addr} (h : A = some a) : a.block ∈ blkOf A := by subst h; simp [blkOf]
theorem of_blkOf {A : Option Addr} {i : Nat} (h : i ∈ blkOf A) : ∃ a, A = some a ∧ a.block = i := by
  cases A with
  | none => simp [blkOf] at h
  | some a => simp [blkOf] at h; exact ⟨a, rfl, h.symm⟩
/-- A block ahead of what is new is none of it. -/
theorem notin_lo {A : Option Addr} {n s : Nat} (h : ∀ a, A = some a → n ≤ a.block) (hs : s < n) : s ∉ blkOf A := fun hm => by
  obtain ⟨a, e, rfl⟩ := of_blkOf hm
  have := h a e
  omega
theorem notin_hi {A : Option Addr} {n s : Nat} (h : ∀ a, A = some a → a.block < n) (hs : n ≤ s) : s ∉ blkOf A := fun hm => by
  obtain ⟨a, e, rfl⟩ := of_blkOf hm
  have := h a e
  omega
theorem blkOf_new {A : Option Addr} {n : Nat} (h : ∀ a, A = some a → n ≤ a.block) : ∀ i ∈ blkOf A, n ≤ i := fun i hm => by
  obtain ⟨a, e, rfl⟩ := of_blkOf hm
  exact h a e
theorem OwnB.lt {w : World} {A : Option Addr} {c : Nat} {xs : List UInt8} (h : OwnB w A c xs) : ∀ a, A = some a → a.block < w.heap.size := by
  rintro a rfl
  rcases h with ⟨h, _, _⟩ | ⟨g, full, h, hg, _⟩
  · cases h
  · cases h; exact lt_of_heap hg
theorem last1' {p q : Prop} (h : p ∧ q) : q := h.2

section
variable {P : Program} {ops : Array Oper} {Q : Exit → Act → World → Prop} {md : Region.Mode} {S : World → Prop}
/-- A step that yields at once, its slot written out. -/
theorem step_yes (i d : Nat) (v : Value) {oi : Oper} {fuel : Nat} {listed : Array Bool} {a : Act} {w : World} (hS : S w) (hi : ops[i]? = some oi) (hd : oi.dst = some d)
    (hs : Region.noSelect ops = true) (hf : Region.free md ops listed i = true) (hr : (Region.ready md ops listed).contains i = true)
    (hQ : ∀ c a w, Q (.panic c) (a.put (some d) v) w → Q (.panic c) a w) (hw : Region.wanted oi (yielded ops a.tmps) = true) (hy : ∀ w, S w → (execOp a.eval oi).run P w = .ok (.value v) w)
    (h : wpAnyH P md ops Q S fuel (listed.setIfInBounds i true) (a.put (some d) v) w) : wpAnyH P md ops Q S (fuel + 1) listed a w :=
  wpAnyH_take hi hs hf hr (by rw [hd]; exact hQ) (.inl ⟨hw, hy⟩) hS (by rw [hd]; exact h)
/-- A step that is not wanted. -/
theorem step_no (i d : Nat) {oi : Oper} {fuel : Nat} {listed : Array Bool} {a : Act} {w : World} (hS : S w) (hi : ops[i]? = some oi) (hd : oi.dst = some d)
    (hs : Region.noSelect ops = true) (hf : Region.free md ops listed i = true) (hr : (Region.ready md ops listed).contains i = true)
    (hQ : ∀ c a w, Q (.panic c) (a.put (some d) undef) w → Q (.panic c) a w) (hw : Region.wanted oi (yielded ops a.tmps) = false)
    (h : wpAnyH P md ops Q S fuel (listed.setIfInBounds i true) (a.put (some d) undef) w) : wpAnyH P md ops Q S (fuel + 1) listed a w :=
  wpAnyH_take hi hs hf hr (by rw [hd]; exact hQ) (.inr ⟨hw, rfl⟩) hS (by rw [hd]; exact h)
/-- 'step_yes', short: what is closed is proved by itself. -/
theorem sy (i d : Nat) {v : Value} {oi : Oper} {fuel : Nat} {listed : Array Bool} {a : Act} {w : World} (hi : ops[i]? = some oi) (hd : oi.dst = some d)
    (h : wpAnyH P md ops Q S fuel (listed.setIfInBounds i true) (a.put (some d) v) w)
    (hS : S w := by assumption) (hs : Region.noSelect ops = true := by kernel_rfl) (hf : Region.free md ops listed i = true := by kernel_rfl) (hr : (Region.ready md ops listed).contains i = true := by kernel_rfl)
    (hQ : ∀ c a w, Q (.panic c) (a.put (some d) v) w → Q (.panic c) a w := by exact fun _ _ _ h => h) (hw : Region.wanted oi (yielded ops a.tmps) = true := by rfl)
    (hy : ∀ w, S w → (execOp a.eval oi).run P w = .ok (.value v) w := by intro w hSw; (try dsimp only at hSw); go_simp; try with_reducible rfl) : wpAnyH P md ops Q S (fuel + 1) listed a w :=
  step_yes i d v hS hi hd hs hf hr hQ hw hy h
theorem sn (i d : Nat) {oi : Oper} {fuel : Nat} {listed : Array Bool} {a : Act} {w : World} (hi : ops[i]? = some oi) (hd : oi.dst = some d)
    (h : wpAnyH P md ops Q S fuel (listed.setIfInBounds i true) (a.put (some d) undef) w)
    (hS : S w := by assumption) (hs : Region.noSelect ops = true := by kernel_rfl) (hf : Region.free md ops listed i = true := by kernel_rfl) (hr : (Region.ready md ops listed).contains i = true := by kernel_rfl)
    (hQ : ∀ c a w, Q (.panic c) (a.put (some d) undef) w → Q (.panic c) a w := by exact fun _ _ _ h => h) (hw : Region.wanted oi (yielded ops a.tmps) = false := by rfl) : wpAnyH P md ops Q S (fuel + 1) listed a w :=
  step_no i d hS hi hd hs hf hr hQ hw h
end
theorem sA {α : Type} (l : List α) (i : Nat) (a : α) : l.toArray.setIfInBounds i a = (l.set i a).toArray := List.setIfInBounds_toArray ..
theorem s0 {α : Type} (x y : α) (l : List α) : (x :: l).set 0 y = y :: l := rfl
theorem s1 {α : Type} (x y : α) (l : List α) (n : Nat) : (x :: l).set (n + 1) y = x :: l.set n y := rfl
end Go.Proofs.Ytgafkphhnlifiaa
