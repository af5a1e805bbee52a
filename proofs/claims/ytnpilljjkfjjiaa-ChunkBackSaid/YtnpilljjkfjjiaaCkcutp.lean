/- Cut: the program's. -/
import Derived.Test.YtnpilljjkfjjiaaCknum
import Derived.Test.YtnpilljjkfjjiaaRangek
import Derived.Test.YtnpilljjkfjjiaaRoundreg
import Derived.Test.YtnpilljjkfjjiaaMsgargs
import Derived.Sort.QuietIn
namespace Go.Proofs.Ytnpilljjkfjjiaa
open Go.RowKit
set_option linter.unusedSimpArgs false
set_option linter.unusedVariables false
attribute [local go_sem] Oper.semAt_some

theorem KeepsOthers.of_chg {w w' : World} (h : Chg [] w w') : KeepsOthers w w' := ⟨h.size, fun k o hk _ => (h.block k (lt_of_heap hk) (by simp)).trans hk⟩
set_option maxRecDepth 100000 in
set_option maxHeartbeats 2000000 in
theorem slchunk_any (w : World) (A : Option Addr) (n c : Nat) : Calls Try.prog 32 #[.slice A n c, .int .i64 200] w fun e w' =>
    e = .returned (.func (.func 39) #[] #[.pointer (some ⟨w.heap.size, 0, none⟩), .pointer (some ⟨w.heap.size + 1, 0, none⟩)]) ∧
      w' = (w.alloc (.cells #[.slice A n c] 22)).alloc (.cells #[.int .i64 200] 3) := by
  go_enter Try.func32, Try.ntmps32
  go_wp2
  go_ret
  exact ⟨rfl, rfl⟩
set_option maxRecDepth 100000 in
set_option maxHeartbeats 2000000 in
theorem bxnumb_any (w : World) (v : Value) (hv : v.oneCell' = true) : Calls Try.prog 31 #[v] w fun e w' =>
    e = .returned (.func (.func 38) #[] #[.pointer (some ⟨w.heap.size, 0, none⟩)]) ∧ w' = w.alloc (.cells #[v] 63) := by
  go_enter Try.func31, Try.ntmps31
  go_wp2
  go_ret
  exact ⟨rfl, rfl⟩
/-- Piece j of these bytes. -/
def pieceR (xs : List UInt8) (j : Nat) : List UInt8 := (xs.drop (j * 200)).take (pieceL xs.length j)
theorem pieceL_le (len j : Nat) : pieceL len j ≤ 200 ∧ pieceL len j ≤ len - j * 200 := by unfold pieceL; split <;> omega
theorem pieceL_pos {len j : Nat} (h : j * 200 < len) : 0 < pieceL len j := by unfold pieceL; split <;> omega
theorem pieceR_len (xs : List UInt8) (j : Nat) : (pieceR xs j).length = pieceL xs.length j := by
  have := pieceL_le xs.length j
  simp only [pieceR, List.length_take, List.length_drop]; omega
def blkM (x : MsgT) : Nat := x.2.2.2.2.1.elim 0 (·.block)
theorem Bs.pieceAt {w : World} {g o : Nat} {xs : List UInt8} (h : Bs w (some ⟨g, o, none⟩) xs.length xs) (j : Nat) : Bs w (some ⟨g, o + j * 200, none⟩) (pieceL xs.length j) (pieceR xs j) := by
  refine ⟨pieceR_len xs j, fun q v hq => ?_⟩
  have hl := (List.getElem?_eq_some_iff.1 hq).1
  rw [pieceR_len] at hl
  have := pieceL_le xs.length j
  simp only [pieceR] at hq
  rw [List.getElem?_take_of_lt (by omega), List.getElem?_drop] at hq
  obtain ⟨a, e, hc⟩ := h.cells _ v hq
  cases e
  refine ⟨_, rfl, ?_⟩
  rw [add_lit] at hc ⊢
  rwa [Nat.add_assoc]
theorem OwnB.at0 {w : World} {A : Option Addr} {c : Nat} {xs : List UInt8} (h : OwnB w A c xs) (h0 : 0 < xs.length) : ∃ g, A = some ⟨g, 0, none⟩ := by
  rcases h with ⟨_, rfl, _⟩ | ⟨g, full, rfl, _⟩
  · simp at h0
  · exact ⟨g, rfl⟩
theorem held2 {p q : Addr} {u v : Value} {a b : World} (h : a.cell? p = some u ∧ a.cell? q = some v) (hc : Chg [] a b) : b.cell? p = some u ∧ b.cell? q = some v := ⟨hc.cell h.1 (by simp), hc.cell h.2 (by simp)⟩
/-- The pieces of an item, each in a row of its own, at or behind block m; the rows rise. -/
def CutP (m : Nat) (W : World) (it : Int) (xs : List UInt8) (l : List MsgT) : Prop :=
  (∀ (j : Nat) (x : MsgT), l[j]? = some x → ∃ g c, x = ((1, it, (xs.length : Int), (j : Int) * 200, some ⟨g, 0, none⟩, pieceL xs.length j, c) : MsgT) ∧ OwnB W (some ⟨g, 0, none⟩) c (pieceR xs j) ∧ m ≤ g) ∧ l.Pairwise (fun x y => blkM x < blkM y)
theorem CutP.nil (m : Nat) (W : World) (it : Int) (xs : List UInt8) : CutP m W it xs [] := ⟨by simp, List.Pairwise.nil⟩
theorem CutP.less {m n : Nat} {W : World} {it : Int} {xs : List UInt8} {l : List MsgT} (h : CutP m W it xs l) (hn : n ≤ m) : CutP n W it xs l :=
  ⟨fun j x hx => by obtain ⟨g, c, h1, h2, h3⟩ := h.1 j x hx; exact ⟨g, c, h1, h2, by omega⟩, h.2⟩
theorem CutP.keep {m : Nat} {W W' : World} {it : Int} {xs : List UInt8} {l : List MsgT} (h : CutP m W it xs l)
    (hk : ∀ g cs, m ≤ g → W.heap[g]? = some (.cells cs 5 (0, 0)) → W'.heap[g]? = some (.cells cs 5 (0, 0))) : CutP m W' it xs l :=
  ⟨fun j x hx => by
    obtain ⟨g, c, h1, h2, h3⟩ := h.1 j x hx
    refine ⟨g, c, h1, ?_, h3⟩
    rcases h2 with ⟨e, _⟩ | ⟨g', full, e, hg, r⟩
    · cases e
    · cases e
      exact .inr ⟨_, full, rfl, hk _ _ h3 hg, r⟩, h.2⟩
theorem CutP.chg {S : List Nat} {m : Nat} {W W' : World} {it : Int} {xs : List UInt8} {l : List MsgT} (h : CutP m W it xs l) (hc : Chg S W W') (hS : ∀ k ∈ S, k < m) : CutP m W' it xs l :=
  h.keep fun g cs hg ho => hc.at_ ho (fun hm => by have := hS g hm; omega)
theorem CutP.putl {m : Nat} {W : World} {it : Int} {xs : List UInt8} {l : List MsgT} (h : CutP m W it xs l) {k : Nat} {o o' : Obj} (hl : W.heap[k]? = some o) (ho : o.isCells = false) : CutP m (W.putObj k o') it xs l :=
  h.keep fun g cs hg hs => by
    rw [World.putObj_heap_other (fun e => by subst e; rw [hs] at hl; cases hl; cases ho)]
    exact hs
theorem CutP.grown {m : Nat} {W W' : World} {it : Int} {xs : List UInt8} {l : List MsgT} (h : CutP m W it xs l) {B : Option Addr} {d : Nat} {lm : List MsgT} (hO : OwnK msgTy W B d lm) (hg : W.grownBy W' (B.map (·.block))) : CutP m W' it xs l :=
  h.keep fun g cs _ hs => by
    refine (hg.block g (lt_of_heap hs) (fun e => ?_)).trans hs
    rcases hO with ⟨rfl, _, _⟩ | ⟨k, full, rfl, hk, _⟩
    · cases e
    · simp at e
      subst e
      rw [hs] at hk
      cases hk
theorem CutP.old {m : Nat} {W : World} {it : Int} {xs : List UInt8} {l : List MsgT} (h : CutP m W it xs l) : ∀ x ∈ l, blkM x < W.heap.size := by
  intro x hx
  obtain ⟨j, hj, rfl⟩ := List.getElem_of_mem hx
  obtain ⟨g, c, h1, h2, h3⟩ := h.1 j _ (List.getElem?_eq_getElem hj)
  rw [h1]
  rcases h2 with ⟨e, _⟩ | ⟨g', full, e, hg, r⟩
  · cases e
  · cases e
    exact lt_of_heap hg
theorem CutP.push {m : Nat} {W : World} {it : Int} {xs : List UInt8} {l : List MsgT} (h : CutP m W it xs l) {g c : Nat} (ho : OwnB W (some ⟨g, 0, none⟩) c (pieceR xs l.length)) (hm : m ≤ g) (hnew : ∀ x ∈ l, blkM x < g) :
    CutP m W it xs (l ++ [((1, it, (xs.length : Int), (l.length : Int) * 200, some ⟨g, 0, none⟩, pieceL xs.length l.length, c) : MsgT)]) := by
  refine ⟨fun j x hx => ?_, ?_⟩
  · rcases Nat.lt_trichotomy j l.length with hj | hj | hj
    · rw [List.getElem?_append_left hj] at hx
      exact h.1 j x hx
    · subst hj
      simp at hx
      subst hx
      exact ⟨g, c, rfl, ho, hm⟩
    · rw [List.getElem?_append_right (by omega), List.getElem?_eq_none (by simp; omega)] at hx
      cases hx
  · refine List.pairwise_append.2 ⟨h.2, List.pairwise_singleton _ _, ?_⟩
    intro x hx y hy
    simp at hy
    subst hy
    exact hnew x hx
end Go.Proofs.Ytnpilljjkfjjiaa
