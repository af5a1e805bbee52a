/- Lists of entries in memory of their own. What is changed within two bounds. Package dot: Check, compare, Less, Next; the document's Check, Less, Next. Package dot: compare, Less, Next; the document's Less, Next. Dots in slices: the kit's functions on them. Spans in slices: the functions of the kit on them. A run of the program on marks in the place of blocks: plain functions that the kernel can run. No program is named here. What a mark stands for: values, rows and worlds against their marks. No program is named here. -/
import Derived.Test.YtimdfpejgaidhaaGreatDoorZtwc
import Derived.Test.YtimdfpejgaidhaaGreatDoorZtwa
import Derived.Deep.RegionHeld3
import Derived.Deep.QuietTactic
import Derived.BigQuiet
import Derived.RegionTactic
import Derived.Test.YtimdfpejgaidhaaGreatDoorRows
import Derived.RangeFuncLeaves
import Derived.OrdersIn
import Derived.LoopNIn
namespace Go.Proofs.YtimdfpejgaidhaaGreatDoor
section
open Go.RowKit Go.Lib
set_option linter.unusedSimpArgs false
set_option linter.unusedVariables false

/-- An entry is stored into its place of a row. -/
theorem OwnK.setn4 {w : World} {g c : Nat} {xs : List EnT} (h : OwnK enTy w (some ⟨g, 0, none⟩) c xs) (j : Nat) (y x : EnT) (hx : xs[j]? = some y) :
    OwnK enTy ((((w.setCell ⟨g, j * 4, none⟩ (.string x.p)).setCell ⟨g, j * 4 + 1, none⟩ (.int .i64 x.k)).setCell ⟨g, j * 4 + 2, none⟩ (.int .i64 x.m)).setCell ⟨g, j * 4 + 3, none⟩ (.slice x.A x.l x.c)) (some ⟨g, 0, none⟩) c (xs.set j x) := by
  have a0 := h.setc j 0 y ⟨x.p, y.k, y.m, y.A, y.l, y.c⟩ (.string x.p) hx (by decide) (fun q hq => by rcases q with _ | _ | _ | _ | q <;> rfl)
  have a1 := a0.setc j 1 _ ⟨x.p, x.k, y.m, y.A, y.l, y.c⟩ (.int .i64 x.k) (setN_k _ hx) (by decide) (fun q hq => by rcases q with _ | _ | _ | _ | q <;> rfl)
  rw [List.set_set] at a1
  have a2 := a1.setc j 2 _ ⟨x.p, x.k, x.m, y.A, y.l, y.c⟩ (.int .i64 x.m) (setN_k _ hx) (by decide) (fun q hq => by rcases q with _ | _ | _ | _ | q <;> rfl)
  rw [List.set_set] at a2
  have a3 := a2.setc j 3 _ x (.slice x.A x.l x.c) (setN_k _ hx) (by decide) (fun q hq => by rcases q with _ | _ | _ | _ | q <;> rfl)
  rw [List.set_set] at a3
  exact a3
theorem Chg.setn4 {S : List Nat} {w0 w : World} {g : Nat} (h : Chg S w0 w) (hg : g ∈ S ∨ w0.heap.size ≤ g) (o : Nat) (v0 v1 v2 v3 : Value) :
    Chg S w0 ((((w.setCell ⟨g, o, none⟩ v0).setCell ⟨g, o + 1, none⟩ v1).setCell ⟨g, o + 2, none⟩ v2).setCell ⟨g, o + 3, none⟩ v3) :=
  (((h.setCell (p := ⟨g, o, none⟩) hg v0).setCell (p := ⟨g, o + 1, none⟩) hg v1).setCell (p := ⟨g, o + 2, none⟩) hg v2).setCell (p := ⟨g, o + 3, none⟩) hg v3
/-- Entries whose bytes are memory of their own, between lo and hi, beside the row G. -/
structure OwnNs (w : World) (lo hi : Nat) (G : Option Addr) (ys : List EnT) (es : List EnP) : Prop where
  ev : EnsR w ys es
  own : ∀ (i : Nat) (y : EnT) (e : EnP), ys[i]? = some y → es[i]? = some e → OwnB w y.A y.c e.b
  at_ : ∀ y ∈ ys, ∀ a, y.A = some a → lo ≤ a.block ∧ a.block < hi ∧ ∀ b, G = some b → a.block ≠ b.block
  apart : ys.Pairwise (fun y z => ∀ a b, y.A = some a → z.A = some b → a.block ≠ b.block)
theorem OwnNs.nil (w : World) (lo hi : Nat) (G : Option Addr) : OwnNs w lo hi G [] [] := ⟨EnsR.nil _, fun i y e h => by simp at h, fun y h => by simp at h, List.Pairwise.nil⟩
theorem OwnNs.chg {S : List Nat} {w w' : World} {lo hi : Nat} {G : Option Addr} {ys : List EnT} {es : List EnP} (h : OwnNs w lo hi G ys es) (hc : Chg S w w') (hS : ∀ i ∈ S, (lo ≤ i ∧ i < hi) → ∃ b, G = some b ∧ b.block = i) : OwnNs w' lo hi G ys es := by
  have no : ∀ y ∈ ys, ∀ a, y.A = some a → a.block ∉ S := fun y hy a ha q => by
    obtain ⟨l, u, d⟩ := h.at_ y hy a ha
    obtain ⟨b, hb, e⟩ := hS _ q ⟨l, u⟩
    exact d b hb e.symm
  exact ⟨h.ev.chgS hc (fun x hx a ha => no x hx a ha), fun i y e hy he => (h.own i y e hy he).chg hc (fun a ha => no y (List.mem_of_getElem? hy) a ha), h.at_, h.apart⟩
theorem OwnNs.mono {w : World} {lo hi hi' : Nat} {G : Option Addr} {ys : List EnT} {es : List EnP} (h : OwnNs w lo hi G ys es) (hh : hi ≤ hi') : OwnNs w lo hi' G ys es :=
  ⟨h.ev, h.own, fun y hy a ha => ⟨(h.at_ y hy a ha).1, by have := (h.at_ y hy a ha).2.1; omega, (h.at_ y hy a ha).2.2⟩, h.apart⟩
theorem OwnNs.low {w : World} {lo lo' hi : Nat} {G : Option Addr} {ys : List EnT} {es : List EnP} (h : OwnNs w lo hi G ys es) (hh : lo' ≤ lo) : OwnNs w lo' hi G ys es :=
  ⟨h.ev, h.own, fun y hy a ha => ⟨by have := (h.at_ y hy a ha).1; omega, (h.at_ y hy a ha).2⟩, h.apart⟩
theorem OwnNs.snoc {w : World} {lo hi hi' : Nat} {G : Option Addr} {ys : List EnT} {es : List EnP} {x : EnT} {e : EnP} (h : OwnNs w lo hi G ys es) (hh : lo ≤ hi ∧ hi ≤ hi') (r : EnR w x e) (hA : OwnB w x.A x.c e.b) (ha : ∀ a, x.A = some a → hi ≤ a.block ∧ a.block < hi' ∧ ∀ b, G = some b → a.block ≠ b.block) : OwnNs w lo hi' G (ys ++ [x]) (es ++ [e]) := by
  refine ⟨h.ev.snoc r, fun i y f hy hf => ?_, fun y hy a q => ?_, ?_⟩
  · by_cases q : i < ys.length
    · rw [List.getElem?_append_left q] at hy
      rw [List.getElem?_append_left (by rw [← h.ev.1]; exact q)] at hf
      exact h.own i y f hy hf
    · rw [List.getElem?_append_right (by omega)] at hy
      rw [List.getElem?_append_right (by rw [← h.ev.1]; omega), ← h.ev.1] at hf
      have hi := (List.getElem?_eq_some_iff.1 hy).1
      simp at hi
      have e0 : i - ys.length = 0 := by omega
      rw [e0] at hy hf
      cases hy
      cases hf
      exact hA
  · rcases List.mem_append.1 hy with r | r
    · have := h.at_ y r a q
      exact ⟨this.1, by omega, this.2.2⟩
    · simp at r; subst r
      have := ha a q
      exact ⟨by omega, this.2⟩
  · rw [List.pairwise_append]
    refine ⟨h.apart, List.pairwise_singleton _ _, fun y hy z hz a b p q => ?_⟩
    simp at hz
    subst hz
    have := (h.at_ y hy a p).2.1
    have := (ha b q).1
    omega
/-- A list of entries that lies, all of it, in memory of its own, between lo and hi. -/
structure NsF (w : World) (lo hi : Nat) (A : Option Addr) (c : Nat) (ys : List EnT) (es : List EnP) : Prop where
  row : OwnK enTy w A c ys
  rowAt : ∀ a, A = some a → lo ≤ a.block ∧ a.block < hi
  all : OwnNs w lo hi A ys es
theorem NsF.nil (w : World) (lo hi : Nat) : NsF w lo hi none 0 [] [] := ⟨OwnK.none_ _, (fun a h => by cases h), OwnNs.nil _ _ _ _⟩
end
section
open Go.RowKit Go.Lib
set_option linter.unusedSimpArgs false
set_option linter.unusedVariables false

theorem getElem?_of_drop {α : Type} {xs ys : List α} {k i : Nat} (h : xs.drop k = ys.drop k) (hi : k ≤ i) : xs[i]? = ys[i]? := by
  have := congrArg (fun l => l[i - k]?) h
  simpa [List.getElem?_drop, Nat.add_sub_cancel' hi] using this
end
end Go.Proofs.YtimdfpejgaidhaaGreatDoor
