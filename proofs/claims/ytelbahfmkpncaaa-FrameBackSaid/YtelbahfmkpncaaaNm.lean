/- The reader's number: what it tells, and what is wrong. -/
import Derived.Test.YtelbahfmkpncaaaRd
import Derived.ScopeJumps
namespace Go.Proofs.Ytelbahfmkpncaaa
open Go.RowKit

/-- A scope whose jumps all go forward to one label: what stands there is walked from each of them. -/
theorem wp_scope_fwd {P : Program} {a : Act} {w : World} {Q : Exit → Act → World → Prop} {c rest : Code} (l : Nat) (hf : findLabel c l = some rest)
    (first : c.wp P (Exit.jump l (fun a' w' => rest.wp P (Exit.jump l (fun _ _ => False) Q) a' w') Q) a w) : (Code.scope c).wp P Q a w := by
  refine wp_scope_jumps l _ (fun _ _ => 0) hf first ?_
  intro a w h b k cs
  obtain ⟨e, a', w', hq, harr⟩ := h b k cs
  refine ⟨e, a', w', ?_, harr⟩
  cases e with
  | goto l' => exact absurd hq.2 (by simp)
  | _ => exact hq

/-- The number of bytes, the highest first. -/
def val (l : List UInt8) : Nat := l.foldl (fun n x => n * 256 + x.toNat) 0

/-- Behind a fault. -/
def Failed (w w' : World) (b g : Nat) (xs : List UInt8) (p : Nat) (fe fa : Int) : Prop := Rdr w' b g xs p fe fa ∧ Chg [b] w w'

theorem failed_of {w : World} {b g : Nat} {xs : List UInt8} {p : Nat} {A : Option Addr} {c : Nat} {fe0 fa0 : Int} (h1 : w.heap[b]? = some (.cells #[.pointer (some ⟨b, 0, none⟩), .slice A xs.length c, .int .i64 p, .int .i64 fe0, .int .i64 fa0] 83 (0, 0)))
    (h2 : OwnB w A c xs) (h3 : A = none ∧ g = b ∨ A = some ⟨g, 0, none⟩) (n m : Nat) (fe fa : Int) :
    Failed w ((((w.drewN n).setCell ⟨b, 3, none⟩ (.int .i64 fe)).setCell ⟨b, 4, none⟩ (.int .i64 fa)).drewN m) b g xs p fe fa := by
  have hne := h2.ne h1 (by decide)
  have q1 := heap_setCell_same (w.drewN n) b 3 _ _ (.int .i64 fe) h1
  have q2 := heap_setCell_same _ b 4 _ _ (.int .i64 fa) q1
  refine ⟨⟨A, c, by simpa using q2, h2.keep fun g o eA ho => ?_, h3⟩, ((((Chg.refl _ _).drewN _).setCell (by simp) _).setCell (by simp) _).drewN _⟩
  have hn := hne _ eA
  show (((w.drewN n).setCell ⟨b, 3, none⟩ (.int .i64 fe)).setCell ⟨b, 4, none⟩ (.int .i64 fa)).heap[g]? = _
  rw [Below.heap_setCell _ _ _ _ hn, Below.heap_setCell _ _ _ _ hn]; exact ho

set_option maxHeartbeats 400000 in
theorem num_end (w : World) (b g : Nat) (xs : List UInt8) (fa low high : Int) (h : Rdr w b g xs xs.length 0 fa) :
    Calls Try.prog 64 #[.pointer (some ⟨b, 0, none⟩), .int .i64 low, .int .i64 high] w fun e w' => e = .returned (.tuple #[.int .i64 0, .int .i64 xs.length]) ∧ Failed w w' b g xs xs.length 4 xs.length := by
  obtain ⟨A, c, h1, h2, h3⟩ := h
  have k1 := cell_of h1 1
  have k2 := cell_of h1 2
  have k3 := cell_of h1 3
  have k4 := cell_of h1 4
  have f3 := free_of h1 3
  have f4 := free_of h1 4
  simp only [List.getElem?_toArray, List.getElem?_cons_zero, List.getElem?_cons_succ] at k1 k2 k3 k4
  have H := Lib.hid h1
  have H3 := Lib.hid h3
  clear h1 h3
  go_enter Try.func64, Try.ntmps64
  go_wp2
  refine wp_scope_fwd 0 rfl ?_
  go_wp2
  go_quiet (fail)
  go_wp2
  go_quiet (fail)
  go_wp2
  go_step3
  refine And.intro rfl ?_
  show Code.wp _ _ _ _ _
  go_wp2
  go_quiet (fail)
  go_wp2
  simp only [Exit.jump]
  go_ret2
  exact ⟨rfl, failed_of H.out h2 H3.out _ _ _ _⟩

theorem OwnB.at_ {w : World} {A : Option Addr} {c g : Nat} {xs : List UInt8} (h : OwnB w A c xs) {b p : Nat} (h3 : A = none ∧ g = b ∨ A = some ⟨g, 0, none⟩) {x : UInt8} (hx : xs[p]? = some x) : A = some ⟨g, 0, none⟩ ∧ w.cell? ⟨g, p, none⟩ = some (.int .u8 (x.toNat : Int)) := by
  obtain ⟨a, e, hc⟩ := h.reads.cells p x hx
  rcases h3 with ⟨h3, _⟩ | h3
  · rw [h3] at e; cases e
  · rw [h3] at e; cases e
    rw [add_zero_lit] at hc
    exact ⟨h3, hc⟩

set_option maxHeartbeats 400000 in
theorem num_arg (w : World) (b g : Nat) (xs : List UInt8) (p : Nat) (fa low high : Int) (h : Rdr w b g xs p 0 fa) (x : UInt8) (hx : xs[p]? = some x) (h8 : 8 < (x.toNat : Int)) :
    Calls Try.prog 64 #[.pointer (some ⟨b, 0, none⟩), .int .i64 low, .int .i64 high] w fun e w' => e = .returned (.tuple #[.int .i64 0, .int .i64 p]) ∧ Failed w w' b g xs p 2 p := by
  obtain ⟨A, c, h1, h2, h3⟩ := h
  have hp : p < xs.length := (List.getElem?_eq_some_iff.1 hx).1
  have hne : ((p : Int) == xs.length) = false := by simp; omega
  obtain ⟨rfl, hc⟩ := h2.at_ h3 hx
  have k1 := cell_of h1 1
  have k2 := cell_of h1 2
  have k3 := cell_of h1 3
  have k4 := cell_of h1 4
  have f3 := free_of h1 3
  have f4 := free_of h1 4
  simp only [List.getElem?_toArray, List.getElem?_cons_zero, List.getElem?_cons_succ] at k1 k2 k3 k4
  have H := Lib.hid h1
  have H3 := Lib.hid h3
  have Hx := Lib.hid hx
  clear h1 h3 hx
  go_enter Try.func64, Try.ntmps64
  go_wp2
  refine wp_scope_fwd 0 rfl ?_
  go_wp2
  iterate 4 (go_quiet (fail); go_wp2)
  go_step3
  refine And.intro rfl ?_
  show Code.wp _ _ _ _ _
  go_wp2
  go_quiet (fail)
  go_wp2
  simp only [Exit.jump]
  go_ret2
  exact ⟨rfl, failed_of H.out h2 (.inr rfl) _ _ _ _⟩

set_option maxHeartbeats 400000 in
theorem num_short (w : World) (b g : Nat) (xs : List UInt8) (p : Nat) (fa low high : Int) (h : Rdr w b g xs p 0 fa) (hl : xs.length ≤ 140737488351232) (x : UInt8) (hx : xs[p]? = some x) (h8 : (x.toNat : Int) ≤ 8) (hs : xs.length - (p + 1) < x.toNat) :
    Calls Try.prog 64 #[.pointer (some ⟨b, 0, none⟩), .int .i64 low, .int .i64 high] w fun e w' => e = .returned (.tuple #[.int .i64 0, .int .i64 p]) ∧ Failed w w' b g xs p 4 xs.length := by
  obtain ⟨A, c, h1, h2, h3⟩ := h
  have hp : p < xs.length := (List.getElem?_eq_some_iff.1 hx).1
  have hcap := h2.cap
  unfold maxLen at hcap
  have hne : ((p : Int) == xs.length) = false := by simp; omega
  obtain ⟨rfl, hc⟩ := h2.at_ h3 hx
  have k1 := cell_of h1 1
  have k2 := cell_of h1 2
  have k3 := cell_of h1 3
  have k4 := cell_of h1 4
  have f3 := free_of h1 3
  have f4 := free_of h1 4
  simp only [List.getElem?_toArray, List.getElem?_cons_zero, List.getElem?_cons_succ] at k1 k2 k3 k4
  have H := Lib.hid h1
  have Hx := Lib.hid hx
  clear h1 h3 hx
  go_enter Try.func64, Try.ntmps64
  go_wp2
  refine wp_scope_fwd 0 rfl ?_
  go_wp2
  iterate 4 (go_quiet (fail); go_wp2)
  all_goals
    go_quiet (fail)
    go_wp2
    go_step3
    refine And.intro rfl ?_
    show Code.wp _ _ _ _ _
    go_wp2
    go_quiet (fail)
    go_wp2
    simp only [Exit.jump]
    go_ret2
    exact ⟨rfl, failed_of H.out h2 (.inr rfl) _ _ _ _⟩

set_option maxHeartbeats 400000 in
theorem num_zero (w : World) (b g : Nat) (xs : List UInt8) (p : Nat) (fa low high : Int) (h : Rdr w b g xs p 0 fa) (hl : xs.length ≤ 140737488351232) (x : UInt8) (hx : xs[p]? = some x) (h8 : (x.toNat : Int) ≤ 8) (hs : x.toNat ≤ xs.length - (p + 1)) (h1 : 0 < x.toNat) (hz : xs[p + 1]? = some 0) :
    Calls Try.prog 64 #[.pointer (some ⟨b, 0, none⟩), .int .i64 low, .int .i64 high] w fun e w' => e = .returned (.tuple #[.int .i64 0, .int .i64 p]) ∧ Failed w w' b g xs p 2 p := by
  obtain ⟨A, c, h1, h2, h3⟩ := h
  have hp : p < xs.length := (List.getElem?_eq_some_iff.1 hx).1
  have hcap := h2.cap
  unfold maxLen at hcap
  have hne : ((p : Int) == xs.length) = false := by simp; omega
  have hcc : ¬ c = p + 1 := by omega
  obtain ⟨rfl, hc⟩ := h2.at_ h3 hx
  obtain ⟨_, hc2⟩ := h2.at_ h3 hz
  have k1 := cell_of h1 1
  have k2 := cell_of h1 2
  have k3 := cell_of h1 3
  have k4 := cell_of h1 4
  have f3 := free_of h1 3
  have f4 := free_of h1 4
  simp only [List.getElem?_toArray, List.getElem?_cons_zero, List.getElem?_cons_succ] at k1 k2 k3 k4
  have H := Lib.hid h1
  have Hx := Lib.hid hx
  have Hz := Lib.hid hz
  clear h1 h3 hx hz
  go_enter Try.func64, Try.ntmps64
  go_wp2
  refine wp_scope_fwd 0 rfl ?_
  go_wp2
  iterate 7 (go_quiet (fail); go_wp2)
  go_step3
  refine And.intro rfl ?_
  show Code.wp _ _ _ _ _
  go_wp2
  go_quiet (fail)
  go_wp2
  simp only [Exit.jump]
  go_ret2
  exact ⟨rfl, failed_of H.out h2 (.inr rfl) _ _ _ _⟩
end Go.Proofs.Ytelbahfmkpncaaa
