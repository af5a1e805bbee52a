/- The document's reader: Open, fail, Left, End, and Num. -/
import Derived.Test.YtelbahfmkpncaaaRd2
namespace Go.Proofs.Ytelbahfmkpncaaa
open Go.RowKit

/-- The document's reader at block v, of the bytes at A. -/
def URdr (w : World) (v : Nat) (A : Option Addr) (c : Nat) (xs : List UInt8) (p : Nat) (fe fa : Int) : Prop :=
  w.heap[v]? = some (.cells #[.slice A xs.length c, .int .i64 p, .int .i64 fe, .int .i64 fa] 87 (0, 0)) ∧ Bs w A xs.length xs ∧ (xs = [] ∨ ∀ a, A = some a → a.block ≠ v) ∧ xs.length ≤ c ∧ c ≤ 9223372036854775807

theorem URdr.chg {S : List Nat} {w w' : World} {v : Nat} {A : Option Addr} {c : Nat} {xs : List UInt8} {p : Nat} {fe fa : Int} (h : URdr w v A c xs p fe fa) (hc : Chg S w w') (hv : v ∉ S) (hA : xs = [] ∨ ∀ a, A = some a → a.block ∉ S) : URdr w' v A c xs p fe fa := by
  obtain ⟨h1, h2, h3⟩ := h
  refine ⟨hc.at_ h1 hv, ?_, h3⟩
  rcases hA with rfl | hA
  · exact Bs.nil _ _
  · exact h2.chg hc hA
theorem URdr.cells {w : World} {v : Nat} {A : Option Addr} {c : Nat} {xs : List UInt8} {p : Nat} {fe fa : Int} (h : URdr w v A c xs p fe fa) :
    w.cell? ⟨v, 0, none⟩ = some (.slice A xs.length c) ∧ w.cell? ⟨v, 1, none⟩ = some (.int .i64 p) ∧ w.cell? ⟨v, 2, none⟩ = some (.int .i64 fe) ∧ w.cell? ⟨v, 3, none⟩ = some (.int .i64 fa) ∧ ∀ j, w.frozen? ⟨v, j, none⟩ = false :=
  ⟨cell_of h.1 0, cell_of h.1 1, cell_of h.1 2, cell_of h.1 3, fun j => free_of h.1 j⟩
theorem URdr.set {w : World} {v : Nat} {A : Option Addr} {c : Nat} {xs : List UInt8} {p : Nat} {fe fa : Int} (h : URdr w v A c xs p fe fa) (e q : Int) :
    URdr ((w.setCell ⟨v, 2, none⟩ (.int .i64 e)).setCell ⟨v, 3, none⟩ (.int .i64 q)) v A c xs p e q ∧ Chg [v] w ((w.setCell ⟨v, 2, none⟩ (.int .i64 e)).setCell ⟨v, 3, none⟩ (.int .i64 q)) := by
  have q1 := heap_setCell_same w v 2 _ _ (.int .i64 e) h.1
  have q2 := heap_setCell_same _ v 3 _ _ (.int .i64 q) q1
  have hc : Chg [v] w ((w.setCell ⟨v, 2, none⟩ (.int .i64 e)).setCell ⟨v, 3, none⟩ (.int .i64 q)) := ((Chg.refl _ _).setCell (by simp) _).setCell (by simp) _
  refine ⟨⟨by simpa using q2, ?_, h.2.2⟩, hc⟩
  rcases h.2.2.1 with h3 | h3
  · subst h3; exact Bs.nil _ _
  · exact h.2.1.chg hc (fun a e => by simpa using h3 a e)
theorem URdr.place {w : World} {v : Nat} {A : Option Addr} {c : Nat} {xs : List UInt8} {p : Nat} {fe fa : Int} (h : URdr w v A c xs p fe fa) (q : Nat) :
    URdr (w.setCell ⟨v, 1, none⟩ (.int .i64 q)) v A c xs q fe fa ∧ Chg [v] w (w.setCell ⟨v, 1, none⟩ (.int .i64 q)) := by
  have q1 := heap_setCell_same w v 1 _ _ (.int .i64 q) h.1
  have hc : Chg [v] w (w.setCell ⟨v, 1, none⟩ (.int .i64 q)) := (Chg.refl _ _).setCell (by simp) _
  refine ⟨⟨by simpa using q1, ?_, h.2.2⟩, hc⟩
  rcases h.2.2.1 with h3 | h3
  · subst h3; exact Bs.nil _ _
  · exact h.2.1.chg hc (fun a e => by simpa using h3 a e)
theorem URdr.drewN {w : World} {v : Nat} {A : Option Addr} {c : Nat} {xs : List UInt8} {p : Nat} {fe fa : Int} (h : URdr w v A c xs p fe fa) (n : Nat) : URdr (w.drewN n) v A c xs p fe fa := h.chg ((Chg.refl [] w).drewN n) (by simp) (.inr (by simp))
/-- Where the bytes lie. -/
theorem Bs.from {w : World} {A : Option Addr} {n : Nat} {xs : List UInt8} (h : Bs w A n xs) (h0 : 0 < xs.length) : ∃ g o, A = some ⟨g, o, none⟩ ∧ ∀ j, j < xs.length → w.cell? ⟨g, o + j, none⟩ = some (.int .u8 ((xs.getD j 0).toNat : Int)) := by
  obtain ⟨a, rfl, hc⟩ := h.cells 0 _ (List.getElem?_eq_getElem h0)
  have hsp := World.cell?_spot hc
  obtain ⟨g, o, sp⟩ := a
  have hsp : sp = none := by simpa [Addr.add] using hsp
  subst hsp
  refine ⟨g, o, rfl, fun j hj => ?_⟩
  obtain ⟨a', e, hcj⟩ := h.cells j _ (List.getElem?_eq_getElem hj)
  cases e
  rw [add_lit] at hcj
  rw [hcj]
  simp [bv, List.getD, hj]

set_option maxHeartbeats 400000 in
theorem vopen_any (w : World) (A : Option Addr) (c : Nat) (xs : List UInt8) (h : Bs w A xs.length xs) (hc1 : xs.length ≤ c) (hc2 : c ≤ 9223372036854775807) :
    Calls Try.prog 46 #[.slice A xs.length c] w fun r w' => r = .returned (.pointer (some ⟨w.heap.size, 0, none⟩)) ∧ URdr w' w.heap.size A c xs 0 0 0 ∧ Chg [] w w' := by
  have hold := h.old
  have HO := Lib.hid hold
  clear hold
  go_enter Try.func46, Try.ntmps46
  go_wp2
  go_ret
  refine ⟨rfl, ⟨heap_alloc_new w _, h.chg ((Chg.refl [] w).alloc _) (by simp), ?_, hc1, hc2⟩, (Chg.refl _ _).alloc _⟩
  rcases HO.out with h1 | h1
  · exact .inl h1
  · exact .inr fun a e => by have := h1 a e; omega

set_option maxHeartbeats 400000 in
theorem ufail_any (w : World) (v : Nat) (A : Option Addr) (c : Nat) (xs : List UInt8) (p : Nat) (fa e q : Int) (h : URdr w v A c xs p 0 fa) :
    Calls Try.prog 67 #[.pointer (some ⟨v, 0, none⟩), .int .i64 e, .int .i64 q] w fun r w' => r = .returned (.int .i64 0) ∧ URdr w' v A c xs p e q ∧ Chg [v] w w' := by
  obtain ⟨k0, k1, k2, k3, f⟩ := h.cells
  have f2 := f 2
  have f3 := f 3
  have H := Lib.hid h
  clear h f
  go_enter Try.func67, Try.ntmps67
  go_wp2
  go_ret
  exact ⟨rfl, H.out.set e q⟩

/-- The fault that End tells. -/
def endF (xs : List UInt8) (p : Nat) (fe fa : Int) : Int × Int := if fe = 0 ∧ p < xs.length then (4, p) else (fe, fa)

set_option maxHeartbeats 400000 in
theorem uend_any (w : World) (v : Nat) (A : Option Addr) (c : Nat) (xs : List UInt8) (p : Nat) (fe fa : Int) (h : URdr w v A c xs p fe fa) :
    Calls Try.prog 49 #[.pointer (some ⟨v, 0, none⟩)] w fun r w' => r = .returned (.agg #[.int .i64 (endF xs p fe fa).1, .int .i64 (endF xs p fe fa).2]) ∧ Chg [] w w' := by
  have hv := lt_of_heap h.1
  obtain ⟨k0, k1, k2, k3, f⟩ := h.cells
  clear h f
  unfold endF
  by_cases he : fe = 0
  · subst he
    by_cases hpl : p < xs.length
    · simp only [true_and, if_pos hpl]
      go_enter Try.func49, Try.ntmps49
      go_wp2
      go_quiet (fail)
      go_wp2
      refine bodyPost_ret (v := .agg #[.int .i64 4, .int .i64 p]) (by simp [results, Try.results49, go_sem]) rfl ?_
      exact ⟨rfl, ((((Chg.refl _ _).alloc _).drewN _).setCell (.inr (Nat.le_refl _)) _).setCell (.inr (Nat.le_refl _)) _⟩
    · simp only [true_and, if_neg hpl]
      go_enter Try.func49, Try.ntmps49
      go_wp2
      go_quiet (fail)
      go_wp2
      refine bodyPost_ret (v := .agg #[.int .i64 0, .int .i64 fa]) (by simp [results, Try.results49, go_sem]) rfl ?_
      exact ⟨rfl, ((((Chg.refl _ _).alloc _).drewN _).setCell (.inr (Nat.le_refl _)) _).setCell (.inr (Nat.le_refl _)) _⟩
  · simp only [he, false_and, if_false]
    have he' : (fe == 0) = false := by simpa using he
    clear he
    go_enter Try.func49, Try.ntmps49
    go_wp2
    go_quiet (fail)
    go_wp2
    refine bodyPost_ret (v := .agg #[.int .i64 fe, .int .i64 fa]) (by simp [results, Try.results49, go_sem]) rfl ?_
    exact ⟨rfl, ((((Chg.refl _ _).alloc _).drewN _).setCell (.inr (Nat.le_refl _)) _).setCell (.inr (Nat.le_refl _)) _⟩
end Go.Proofs.Ytelbahfmkpncaaa
