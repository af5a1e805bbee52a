/- The document's reader: Raw and Text. -/
import Derived.Test.YtphchggabcbfkaaDoorUn2
import Derived.Test.YtphchggabcbfkaaDoorRd3
import Derived.Deep.RegionHeld3
import Derived.Deep.AppendLies
namespace Go.Proofs.YtphchggabcbfkaaDoor
open Go.RowKit

theorem add_twice (a : Addr) (i j : Nat) : (a.add i).add j = a.add (i + j) := by
  unfold Addr.add
  by_cases hi : i = 0 <;> by_cases hj : j = 0 <;> simp [hi, hj, Nat.add_assoc]
/-- A part of bytes. -/
theorem Bs.part {w : World} {A : Option Addr} {xs : List UInt8} (h : Bs w A xs.length xs) (q n : Nat) (hq : q + n ≤ xs.length) : Bs w (Option.map (fun x => x.add q) A) n ((xs.drop q).take n) := by
  refine ⟨by simp; omega, fun j u hj => ?_⟩
  rw [List.getElem?_take, List.getElem?_drop] at hj
  split at hj
  · obtain ⟨a, rfl, hc⟩ := h.cells (q + j) u hj
    exact ⟨a.add q, rfl, by rw [add_twice]; exact hc⟩
  · cases hj

theorem app_cell {w2 w3 : World} {o : Obj} {p : Addr} {u : Value} (hg : (w2.alloc o).drew.grownBy w3 (some w2.heap.size)) (hlt : p.block < w2.heap.size) (h : w2.cell? p = some u) : w3.cell? p = some u := by
  refine (World.cell?_of_block (w := w2) ?_).trans h
  refine (hg.block _ ?_ (by simp; omega)).trans (Below.heap_alloc _ _ _ hlt)
  show p.block < (w2.alloc o).heap.size
  rw [World.size_alloc]
  omega
/-- append of bytes, at a step of a region that draws its order. -/
theorem step_app {ops : Array Oper} {o : Oper} {a : Act} {w : World} {K : Act → World → Prop} {Q : Exit → Act → World → Prop} {E : Prop} (hgd : o.guard = none) (s x : Operand)
    (ho : o.op = .call { callee := .builtin .append, args := #[s, x], argTypes := #[22, 22] })
    {A : Option Addr} {c n : Nat} {xs : List UInt8} (hs : a.eval s = .slice A n c) (hown : OwnB w A c xs) (hn : xs.length = n) {B : Option Addr} {m d : Nat} {ys : List UInt8} (hx : a.eval x = .slice B m d) (hr : Bs w B m ys) (hlen : n + m ≤ 140737488355327)
    (h : ∀ A' c' w', OwnB w' A' c' (xs ++ ys) → w.grownBy w' (A.map (·.block)) → (A' = A ∨ A' = some ⟨w.heap.size, 0, none⟩) → K (a.put o.dst (.slice A' (n + m) c')) w') :
    if Region.wanted o (yielded ops a.tmps) = true then Oper.wp Tryd.prog o a w K Q else E := by
  have hw : Region.wanted o (yielded ops a.tmps) = true := by simp [Region.wanted, hgd]
  rw [if_pos hw]
  subst hn
  obtain ⟨A', c', w', hrun, h2, h3, h4⟩ := run_app w o.type hown (d := d) hr hlen
  unfold Oper.wp execOp
  simp only [ho, resolve, invoke, builtin, Sem.run_bind, Sem.run_pure, Result.andThen_ok, List.map_toArray, List.map_cons, List.map_nil, hs, hx, hrun]
  exact h A' c' w' h2 h3 h4

end Go.Proofs.YtphchggabcbfkaaDoor
