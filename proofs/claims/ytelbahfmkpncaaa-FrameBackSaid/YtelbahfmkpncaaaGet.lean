/- Package frame: GetPacket. -/
import Derived.Test.YtelbahfmkpncaaaPut
import Derived.Test.YtelbahfmkpncaaaKit
import Derived.Deep.RegionHeld3
import Derived.Deep.Cut
import Derived.Deep.CutRange
namespace Go.Proofs.Ytelbahfmkpncaaa
open Go.RowKit
set_option linter.unusedSimpArgs false
set_option linter.unusedVariables false

section
variable {P : Program} {ops : Array Oper} {Q : Exit → Act → World → Prop} {md : Region.Mode} {S : World → Prop}
/-- A step that yields at once, its slot written out. -/
theorem take_yes (i d : Nat) (v : Value) {oi : Oper} {fuel : Nat} {listed : Array Bool} {a : Act} {w : World} (hS : S w) (hi : ops[i]? = some oi) (hd : oi.dst = some d)
    (hs : Region.noSelect ops = true) (hf : Region.free md ops listed i = true) (hr : (Region.ready md ops listed).contains i = true)
    (hQ : ∀ c a w, Q (.panic c) (a.put (some d) v) w → Q (.panic c) a w) (hw : Region.wanted oi (yielded ops a.tmps) = true) (hy : ∀ w, S w → (execOp a.eval oi).run P w = .ok (.value v) w)
    (h : wpAnyH P md ops Q S fuel (listed.setIfInBounds i true) (a.put (some d) v) w) : wpAnyH P md ops Q S (fuel + 1) listed a w :=
  wpAnyH_take hi hs hf hr (by rw [hd]; exact hQ) (.inl ⟨hw, hy⟩) hS (by rw [hd]; exact h)
/-- A step that is not wanted. -/
theorem take_no (i d : Nat) {oi : Oper} {fuel : Nat} {listed : Array Bool} {a : Act} {w : World} (hS : S w) (hi : ops[i]? = some oi) (hd : oi.dst = some d)
    (hs : Region.noSelect ops = true) (hf : Region.free md ops listed i = true) (hr : (Region.ready md ops listed).contains i = true)
    (hQ : ∀ c a w, Q (.panic c) (a.put (some d) undef) w → Q (.panic c) a w) (hw : Region.wanted oi (yielded ops a.tmps) = false)
    (h : wpAnyH P md ops Q S fuel (listed.setIfInBounds i true) (a.put (some d) undef) w) : wpAnyH P md ops Q S (fuel + 1) listed a w :=
  wpAnyH_take hi hs hf hr (by rw [hd]; exact hQ) (.inr ⟨hw, rfl⟩) hS (by rw [hd]; exact h)
end


set_option maxHeartbeats 400000 in
theorem bequal_any (w : World) (A B : Option Addr) (n m c d : Nat) (xs ys : List UInt8) (h : Bs w A n xs) (k : Bs w B m ys) :
    Calls Try.prog 41 #[.slice A n c, .slice B m d] w fun e w' => e = .returned (.bool (xs == ys)) ∧ w = w' := by
  have h1 := run_str w (c := c) h
  have k1 := run_str w (c := d) k
  go_enter Try.func41, Try.ntmps41
  go_wp2
  go_ret
  exact ⟨rfl, rfl⟩

theorem Bs.head {w : World} {A : Option Addr} {n : Nat} {xs : List UInt8} (h : Bs w A n xs) (k : Nat) (hk : k ≤ n) : Bs w A k (xs.take k) := by
  have hl := h.len
  refine ⟨by simp; omega, fun j u hj => ?_⟩
  rw [List.getElem?_take] at hj
  split at hj
  · exact h.cells j u hj
  · cases hj
theorem Bs.tail {w : World} {g o n : Nat} {xs : List UInt8} (h : Bs w (some ⟨g, o, none⟩) n xs) (k : Nat) (hk : k ≤ n) : Bs w (some ⟨g, o + k, none⟩) (n - k) (xs.drop k) := by
  have hl := h.len
  refine ⟨by simp; omega, fun j u hj => ⟨_, rfl, ?_⟩⟩
  rw [List.getElem?_drop] at hj
  obtain ⟨a, e, hc⟩ := h.cells (k + j) u hj
  cases e
  rw [add_lit] at hc ⊢
  rw [Nat.add_assoc]
  exact hc

def pN1 (xs : List UInt8) : Int × Nat × Int × Int := rNum xs 0 0 0 1 1099511627776
def pN2 (xs : List UInt8) : Int × Nat × Int × Int := rNum xs (pN1 xs).2.1 (pN1 xs).2.2.1 (pN1 xs).2.2.2 0 1099511627776
def pN3 (xs : List UInt8) : Int × Nat × Int × Int := rNum xs (pN2 xs).2.1 (pN2 xs).2.2.1 (pN2 xs).2.2.2 0 1099511627776
def pN4 (xs : List UInt8) : Int × Nat × Int × Int := rNum xs (pN3 xs).2.1 (pN3 xs).2.2.1 (pN3 xs).2.2.2 0 1099511627776
def pR5 (xs : List UInt8) : List UInt8 × Nat × Int × Int := rRaw xs (pN4 xs).2.1 (pN4 xs).2.2.1 (pN4 xs).2.2.2 400
def pF (xs : List UInt8) : Int × Int := endR xs (pR5 xs).2.1 (pR5 xs).2.2.1 (pR5 xs).2.2.2
/-- What is read of a packet's bytes: the packet; the fault. -/
def readQ (xs : List UInt8) : (Int × Int × Int × Int × List UInt8) × Int × Int :=
  if (pF xs).1 ≠ 0 then ((0, 0, 0, 0, []), pF xs) else if FineP (pN1 xs).1 (pN2 xs).1 (pN3 xs).1 (pN4 xs).1 (pR5 xs).1.length then (((pN1 xs).1, (pN2 xs).1, (pN3 xs).1, (pN4 xs).1, (pR5 xs).1), (0, 0)) else ((0, 0, 0, 0, []), (2, 0))
/-- Are these bytes whole: is the fingerprint that of what stands ahead? -/
def whole (xs : List UInt8) : Prop := 8 ≤ xs.length ∧ sumB (xs.take (xs.length - 8)) = xs.drop (xs.length - 8)
instance (xs : List UInt8) : Decidable (whole xs) := by unfold whole; exact inferInstance
def readP (xs : List UInt8) : (Int × Int × Int × Int × List UInt8) × Int × Int := if whole xs then readQ (xs.take (xs.length - 8)) else ((0, 0, 0, 0, []), (11, 0))

/-- What GetPacket leaves. -/
def ReadPPost (w : World) (r : (Int × Int × Int × Int × List UInt8) × Int × Int) (e : Ending) (w' : World) : Prop :=
  ∃ A c, e = .returned (.tuple #[.agg #[.int .i64 r.1.1, .int .i64 r.1.2.1, .int .i64 r.1.2.2.1, .int .i64 r.1.2.2.2.1, .slice A r.1.2.2.2.2.length c], .agg #[.int .i64 r.2.1, .int .i64 r.2.2]]) ∧ Fresh w w' A c r.1.2.2.2.2

set_option maxHeartbeats 4000000 in
theorem pget_short (w : World) (A : Option Addr) (n c : Nat) (xs : List UInt8) (h : Bs w A n xs) (hn : n ≤ 140737488351232) (hs : n < 8) :
    Calls Try.prog 13 #[.slice A n c] w (ReadPPost w ((0, 0, 0, 0, []), (11, 0))) := by
  have hl := h.len
  subst hl
  have ht : decide ((xs.length : Int) - 8 < 0) = true := by simp; omega
  go_enter Try.func13, Try.ntmps13
  go_wp2_with fail
  refine wp_region_held_drew (S := fun _ => True) (by kernel_rfl) trivial (fun _ => ?_)
  refine take_yes 0 12 ?_ trivial rfl rfl (by kernel_rfl) (by kernel_rfl) (by kernel_rfl) (fun _ _ _ h => h) (by rfl) ?_ ?_
  rotate_left
  · (intro w hSw; go_simp; try with_reducible rfl)
  try simp only [Act.put, List.setIfInBounds_toArray, List.set_cons_zero, List.set_cons_succ]
  refine take_yes 1 13 ?_ trivial rfl rfl (by kernel_rfl) (by kernel_rfl) (by kernel_rfl) (fun _ _ _ h => h) (by rfl) ?_ ?_
  rotate_left
  · (intro w hSw; go_simp; try with_reducible rfl)
  try simp only [Act.put, List.setIfInBounds_toArray, List.set_cons_zero, List.set_cons_succ]
  refine take_yes 2 14 ?_ trivial rfl rfl (by kernel_rfl) (by kernel_rfl) (by kernel_rfl) (fun _ _ _ h => h) (by rfl) ?_ ?_
  rotate_left
  · (intro w hSw; go_simp; try with_reducible rfl)
  try simp only [Act.put, List.setIfInBounds_toArray, List.set_cons_zero, List.set_cons_succ]
  refine take_no 3 15 trivial rfl rfl (by kernel_rfl) (by kernel_rfl) (by kernel_rfl) (fun _ _ _ h => h) (by rfl) ?_
  try simp only [Act.put, List.setIfInBounds_toArray, List.set_cons_zero, List.set_cons_succ]
  refine take_no 4 16 trivial rfl rfl (by kernel_rfl) (by kernel_rfl) (by kernel_rfl) (fun _ _ _ h => h) (by rfl) ?_
  try simp only [Act.put, List.setIfInBounds_toArray, List.set_cons_zero, List.set_cons_succ]
  refine take_no 5 17 trivial rfl rfl (by kernel_rfl) (by kernel_rfl) (by kernel_rfl) (fun _ _ _ h => h) (by rfl) ?_
  try simp only [Act.put, List.setIfInBounds_toArray, List.set_cons_zero, List.set_cons_succ]
  refine take_no 7 19 trivial rfl rfl (by kernel_rfl) (by kernel_rfl) (by kernel_rfl) (fun _ _ _ h => h) (by rfl) ?_
  try simp only [Act.put, List.setIfInBounds_toArray, List.set_cons_zero, List.set_cons_succ]
  refine take_no 8 20 trivial rfl rfl (by kernel_rfl) (by kernel_rfl) (by kernel_rfl) (fun _ _ _ h => h) (by rfl) ?_
  try simp only [Act.put, List.setIfInBounds_toArray, List.set_cons_zero, List.set_cons_succ]
  refine take_no 9 21 trivial rfl rfl (by kernel_rfl) (by kernel_rfl) (by kernel_rfl) (fun _ _ _ h => h) (by rfl) ?_
  try simp only [Act.put, List.setIfInBounds_toArray, List.set_cons_zero, List.set_cons_succ]
  refine take_no 6 18 trivial rfl rfl (by kernel_rfl) (by kernel_rfl) (by kernel_rfl) (fun _ _ _ h => h) (by rfl) ?_
  try simp only [Act.put, List.setIfInBounds_toArray, List.set_cons_zero, List.set_cons_succ]
  refine take_no 10 22 trivial rfl rfl (by kernel_rfl) (by kernel_rfl) (by kernel_rfl) (fun _ _ _ h => h) (by rfl) ?_
  try simp only [Act.put, List.setIfInBounds_toArray, List.set_cons_zero, List.set_cons_succ]
  refine take_no 11 23 trivial rfl rfl (by kernel_rfl) (by kernel_rfl) (by kernel_rfl) (fun _ _ _ h => h) (by rfl) ?_
  try simp only [Act.put, List.setIfInBounds_toArray, List.set_cons_zero, List.set_cons_succ]
  refine take_yes 12 24 ?_ trivial rfl rfl (by kernel_rfl) (by kernel_rfl) (by kernel_rfl) (fun _ _ _ h => h) (by rfl) ?_ ?_
  rotate_left
  · (intro w hSw; go_simp; try with_reducible rfl)
  try simp only [Act.put, List.setIfInBounds_toArray, List.set_cons_zero, List.set_cons_succ]
  refine wpAnyH_done (by kernel_rfl) ?_ _
  go_wp2
  have b0 := ((Chg.refl [] (w.alloc (.cells #[.int .i64 0, .int .i64 0, .int .i64 0, .int .i64 0, .slice none 0 0] 24))).alloc (.cells #[.int .i64 11, .int .i64 0] 32)).drew.at_ (heap_alloc_new w (.cells #[.int .i64 0, .int .i64 0, .int .i64 0, .int .i64 0, .slice none 0 0] 24)) (by simp)
  have b1 := ((Chg.refl [] _).drew).at_ (heap_alloc_two w (.cells #[.int .i64 0, .int .i64 0, .int .i64 0, .int .i64 0, .slice none 0 0] 24) (.cells #[.int .i64 11, .int .i64 0] 32)) (by simp)
  have z0 := cell_of b0 0
  have z1 := cell_of b0 1
  have z2 := cell_of b0 2
  have z3 := cell_of b0 3
  have z4 := cell_of b0 4
  have z5 := cell_of b1 0
  have z6 := cell_of b1 1
  simp only [List.getElem?_toArray, List.getElem?_cons_succ, List.getElem?_cons_zero] at z0 z1 z2 z3 z4 z5 z6
  refine bodyPost_ret (v := .tuple #[.agg #[.int .i64 0, .int .i64 0, .int .i64 0, .int .i64 0, .slice none 0 0], .agg #[.int .i64 11, .int .i64 0]]) (by simp [results, Try.results13, go_sem, z0, z1, z2, z3, z4, z5, z6]) rfl ?_
  exact ⟨none, 0, rfl, Fresh.none_ (((Chg.refl [] w).alloc _).alloc _).drew⟩

/-- Both results written. -/
theorem put7 {w : World} {s0 s1 : Nat} {a0 a1 a2 a3 a4 b0 b1 : Value} {T T' : TypeId} (v0 v1 v2 v3 v4 u0 u1 : Value) (q0 : w.heap[s0]? = some (.cells #[a0, a1, a2, a3, a4] T (0, 0))) (q1 : w.heap[s1]? = some (.cells #[b0, b1] T' (0, 0))) (h : s0 ≠ s1) :
    (((((((w.setCell ⟨s0, 0, none⟩ v0).setCell ⟨s0, 1, none⟩ v1).setCell ⟨s0, 2, none⟩ v2).setCell ⟨s0, 3, none⟩ v3).setCell ⟨s0, 4, none⟩ v4).setCell ⟨s1, 0, none⟩ u0).setCell ⟨s1, 1, none⟩ u1).heap[s0]? = some (.cells #[v0, v1, v2, v3, v4] T (0, 0)) ∧
    (((((((w.setCell ⟨s0, 0, none⟩ v0).setCell ⟨s0, 1, none⟩ v1).setCell ⟨s0, 2, none⟩ v2).setCell ⟨s0, 3, none⟩ v3).setCell ⟨s0, 4, none⟩ v4).setCell ⟨s1, 0, none⟩ u0).setCell ⟨s1, 1, none⟩ u1).heap[s1]? = some (.cells #[u0, u1] T' (0, 0)) := by
  have h' : s1 ≠ s0 := fun e => h e.symm
  have p0 := heap_setCell_same _ s0 0 _ _ v0 q0
  have p1 := heap_setCell_same _ s0 1 _ _ v1 p0
  have p2 := heap_setCell_same _ s0 2 _ _ v2 p1
  have p3 := heap_setCell_same _ s0 3 _ _ v3 p2
  have p4 := heap_setCell_same _ s0 4 _ _ v4 p3
  have r : (((((w.setCell ⟨s0, 0, none⟩ v0).setCell ⟨s0, 1, none⟩ v1).setCell ⟨s0, 2, none⟩ v2).setCell ⟨s0, 3, none⟩ v3).setCell ⟨s0, 4, none⟩ v4).heap[s1]? = some (.cells #[b0, b1] T' (0, 0)) := by
    rw [Below.heap_setCell _ _ _ _ (by simpa using h'), Below.heap_setCell _ _ _ _ (by simpa using h'), Below.heap_setCell _ _ _ _ (by simpa using h'), Below.heap_setCell _ _ _ _ (by simpa using h'), Below.heap_setCell _ _ _ _ (by simpa using h')]
    exact q1
  have r0 := heap_setCell_same _ s1 0 _ _ u0 r
  have r1 := heap_setCell_same _ s1 1 _ _ u1 r0
  refine ⟨?_, r1⟩
  rw [Below.heap_setCell _ _ _ _ (by simpa using h), Below.heap_setCell _ _ _ _ (by simpa using h)]
  exact p4

theorem last1 {p q : Prop} (h : p ∧ q) : q := h.2
set_option maxHeartbeats 4000000 in
theorem pget_bad (w : World) (g o c m : Nat) (xs : List UInt8) (h : Bs w (some ⟨g, o, none⟩) (m + 8) xs) (hn : m + 8 ≤ 140737488351232) (hc1 : m + 8 ≤ c) (hc2 : c ≤ 9223372036854775807) (hs : (sumB (xs.take m) == xs.drop m) = false) :
    Calls Try.prog 13 #[.slice (some ⟨g, o, none⟩) (m + 8) c] w (ReadPPost w ((0, 0, 0, 0, []), (11, 0))) := by
  obtain ⟨w0, hw0⟩ : ∃ w0 : World, w0 = (w.alloc (.cells #[.int .i64 0, .int .i64 0, .int .i64 0, .int .i64 0, .slice none 0 0] 24)).alloc (.cells #[.int .i64 0, .int .i64 0] 32) := ⟨_, rfl⟩
  have c0 : Chg [] w w0 := hw0 ▸ ((Chg.refl [] w).alloc _).alloc _
  have b0 : w0.heap[w.heap.size]? = some (.cells #[.int .i64 0, .int .i64 0, .int .i64 0, .int .i64 0, .slice none 0 0] 24 (0, 0)) := hw0 ▸ ((Chg.refl [] _).alloc _).at_ (heap_alloc_new w _) (by simp)
  have b1 : w0.heap[w.heap.size + 1]? = some (.cells #[.int .i64 0, .int .i64 0] 32 (0, 0)) := hw0 ▸ heap_alloc_two w _ _
  have h1 : Bs w0 (some ⟨g, o, none⟩) m (xs.take m) := (h.head m (by omega)).chg c0 (by simp)
  have h2 : Bs w0 (some ⟨g, o + m, none⟩) 8 (xs.drop m) := by
    have := (h.tail m (by omega)).chg c0 (by simp)
    rwa [show m + 8 - m = 8 by omega] at this
  have H1 := Lib.hid h1
  have H2 := Lib.hid h2
  have HS := Lib.hid hs
  have W0 := Lib.hid hw0
  have C0 := Lib.hid c0
  have B0 := Lib.hid b0
  have B1 := Lib.hid b1
  have hs2 : ¬ w.heap.size = w.heap.size + 1 := by omega
  have d5 : ¬ w.heap.size + 1 = w.heap.size := by omega
  have hp0 : ∀ w' j v, Chg [] w w' → Chg [] w (w'.setCell ⟨w.heap.size, j, none⟩ v) := fun _ _ _ h => h.setCell (.inr (Nat.le_refl _)) _
  have hp1 : ∀ w' j v, Chg [] w w' → Chg [] w (w'.setCell ⟨w.heap.size + 1, j, none⟩ v) := fun _ _ _ h => h.setCell (.inr (Nat.le_succ _)) _
  have HP0 := Lib.hid hp0
  have HP1 := Lib.hid hp1
  clear hp0 hp1
  have hk : ∀ w', Chg [] w0 w' → True ∧ Chg [] w0 w' := fun _ h => ⟨trivial, h⟩
  have HK := Lib.hid hk
  have ht : decide ((m : Int) < 0) = false := by simp
  have i0 : (0 : Int) ≤ (m : Int) := by omega
  have i1 : (m : Int) ≤ (c : Int) := by omega
  have i2 : (m : Int) ≤ (m : Int) + 8 := by omega
  have i3 : ¬ c = m := by omega
  have i4 : (m : Int) + 8 ≤ (c : Int) := by omega
  clear hw0 c0 b0 b1 h h1 h2 hk hs
  go_enter Try.func13, Try.ntmps13
  go_wp2_with fail
  rw [← W0.out]
  go_region_held3 (fun w' => True ∧ Chg [] w0 w')
    (first | exact HK.out _ hC | exact HK.out _ (Chg.refl [] w0).drew | (have hC := last1 ‹True ∧ Chg [] w0 _›; first | exact HK.out _ (hC.allocD _) | exact HK.out _ (hC.alloc _) | exact HK.out _ hC))
    (((have hC := last1 ‹True ∧ Chg [] w0 _›); (first
      | (go_at_call 36; refine (pcheck_any _ _ _ _ _ (H1.out.chg hC (by simp)) (by omega)).mono ?_; rintro e w9 ⟨A9, c9, rfl, f9⟩; have hC := hC.trans f9.2.2)
      | (go_at_call 41; refine (bequal_any _ A9 (some ⟨g, o + m, none⟩) 8 8 c9 _ (sumB (xs.take m)) (xs.drop m) (sumB_len (xs.take m) ▸ f9.1.reads) (H2.out.chg hC (by simp))).mono ?_; rw [HS.out]; rintro e w9 ⟨rfl, rfl⟩))))
  all_goals
    have hC := last1 ‹True ∧ Chg [] w0 _›
    have q0 := hC.at_ B0.out (by simp)
    have q1 := hC.at_ B1.out (by simp)
    have C8 := Lib.hid (C0.out.trans hC)
    clear hC
    generalize w.heap.size + 1 = s1 at *
    generalize w.heap.size = s0 at *
    have z0 := cell_of q0 0
    have z1 := cell_of q0 1
    have z2 := cell_of q0 2
    have z3 := cell_of q0 3
    have z4 := cell_of q0 4
    have z5 := cell_of q1 0
    have z6 := cell_of q1 1
    have f0 := free_of q0 0
    have f1 := free_of q0 1
    have f2 := free_of q0 2
    have f3 := free_of q0 3
    have f4 := free_of q0 4
    have f5 := free_of q1 0
    have f6 := free_of q1 1
    simp only [List.getElem?_toArray, List.getElem?_cons_succ, List.getElem?_cons_zero] at z0 z1 z2 z3 z4 z5 z6
    have Q0 := Lib.hid q0
    have Q1 := Lib.hid q1
    clear q0 q1
    have P := put7 (.int .i64 0) (.int .i64 0) (.int .i64 0) (.int .i64 0) (.slice none 0 0) (.int .i64 11) (.int .i64 0) Q0.out Q1.out hs2
    have cW := HP1.out _ 1 (.int .i64 0) (HP1.out _ 0 (.int .i64 11) (HP0.out _ 4 (.slice none 0 0) (HP0.out _ 3 (.int .i64 0) (HP0.out _ 2 (.int .i64 0) (HP0.out _ 1 (.int .i64 0) (HP0.out _ 0 (.int .i64 0) C8.out))))))
    have HPP := Lib.hid P
    have C9 := Lib.hid cW
    clear P cW
    go_wp2
    clear z0 z1 z2 z3 z4 z5 z6 f0 f1 f2 f3 f4 f5 f6
    generalize ((((((w9.setCell ⟨s0, 0, none⟩ (.int .i64 0)).setCell ⟨s0, 1, none⟩ (.int .i64 0)).setCell ⟨s0, 2, none⟩ (.int .i64 0)).setCell ⟨s0, 3, none⟩ (.int .i64 0)).setCell ⟨s0, 4, none⟩ (.slice none 0 0)).setCell ⟨s1, 0, none⟩ (.int .i64 11)).setCell ⟨s1, 1, none⟩ (.int .i64 0) = W at *
    have z0 := cell_of HPP.out.1 0
    have z1 := cell_of HPP.out.1 1
    have z2 := cell_of HPP.out.1 2
    have z3 := cell_of HPP.out.1 3
    have z4 := cell_of HPP.out.1 4
    have z5 := cell_of HPP.out.2 0
    have z6 := cell_of HPP.out.2 1
    simp only [List.getElem?_toArray, List.getElem?_cons_succ, List.getElem?_cons_zero] at z0 z1 z2 z3 z4 z5 z6
    refine bodyPost_ret (v := .tuple #[.agg #[.int .i64 0, .int .i64 0, .int .i64 0, .int .i64 0, .slice none 0 0], .agg #[.int .i64 11, .int .i64 0]]) (by simp [results, Try.results13, go_sem, z0, z1, z2, z3, z4, z5, z6]) rfl ?_
    exact ⟨none, 0, rfl, Fresh.none_ C9.out⟩
end Go.Proofs.Ytelbahfmkpncaaa
