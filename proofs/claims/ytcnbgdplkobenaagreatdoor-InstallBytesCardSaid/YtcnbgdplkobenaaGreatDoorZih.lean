/- The document's without. Sets of dots as lists of spans: how many dots they have, what is the last one, what is joined, left, within. Plain. A past's bytes are read as it; what is read has just these bytes. Plain. install.Read. Rows of events, and events handed in: what their cells are, and what their slices read as. event.Check. -/
import Derived.Test.YtcnbgdplkobenaaGreatDoorZig
import Derived.Deep.Cut
import Derived.Test.YtcnbgdplkobenaaGreatDoorZif
import Derived.Test.YtcnbgdplkobenaaGreatDoorZid
import Derived.Test.YtcnbgdplkobenaaGreatDoorZic
import Derived.Test.YtcnbgdplkobenaaGreatDoorZie
import Derived.Test.YtcnbgdplkobenaaGreatDoorZib
import Derived.Deep.RegionHeld3
namespace Go.Proofs.YtcnbgdplkobenaaGreatDoor
section
open Go.RowKit Go.Lib
set_option linter.unusedSimpArgs false
set_option linter.unusedVariables false
end
section
set_option linter.unusedSimpArgs false
set_option linter.unusedVariables false

theorem wf_mem {xs : List Sp} (h : WfC xs) {n s : Int} (hm : Mem xs n s) : 1 ≤ n ∧ n ≤ 200 ∧ 1 ≤ s ∧ s ≤ 2147483647 := by
  obtain ⟨x, hx, e, l, r⟩ := hm
  have := h.2 x hx
  omega
theorem wf_sub {m : List Sp} (h : Norm m) (hb : ∀ n s, Mem m n s → 1 ≤ n ∧ n ≤ 200 ∧ 1 ≤ s ∧ s ≤ 2147483647) : WfC m :=
  ⟨h, fun x hx => by
    have o := h.1 x hx
    unfold SpOk at o
    have a := hb x.1 x.2.1 ⟨x, hx, rfl, Int.le_refl _, o⟩
    have b := hb x.1 x.2.2 ⟨x, hx, rfl, o, Int.le_refl _⟩
    omega⟩
theorem push_len (out : List Sp) (z : Sp) : (pushP out z).length ≤ out.length + 1 := by
  unfold pushP
  split <;> (try split) <;> simp <;> omega
theorem fold_len : ∀ (zs out : List Sp), (zs.foldl pushP out).length ≤ out.length + zs.length
  | [], out => by simp
  | z :: zs, out => by
    have h1 := fold_len zs (pushP out z)
    have h2 := push_len out z
    rw [List.foldl_cons, List.length_cons]
    omega
theorem tidy_len (l : List Sp) : (tidyS l).length ≤ l.length := by
  have := fold_len (riseS l) []
  rw [(rise_props l).2.2] at this
  simpa [tidyS] using this
theorem bound_le {l : List Sp} (h : l.length ≤ 4000) : boundP l = (0, l) := by unfold boundP; rw [if_neg (by omega)]
/-- What is joined of two short pasts. -/
theorem join_ok {a b : List Sp} (ha : chkS a = 0) (hb : chkS b = 0) (hl : a.length + b.length ≤ 4000) : joinE a b = (0, tidyS (a ++ b)) ∧ chkS (tidyS (a ++ b)) = 0 ∧ (tidyS (a ++ b)).length ≤ a.length + b.length ∧ ∀ n s, Mem (tidyS (a ++ b)) n s ↔ Mem a n s ∨ Mem b n s := by
  have wa := (wf_of_chk ha).1
  have wb := (wf_of_chk hb).1
  have t := tidy_norm (l := a ++ b) (fun x hx => by
    rcases List.mem_append.1 hx with q | q
    · exact wa.1.1 x q
    · exact wb.1.1 x q)
  have tl := tidy_len (a ++ b)
  rw [List.length_append] at tl
  have tm : ∀ n s, Mem (tidyS (a ++ b)) n s ↔ Mem a n s ∨ Mem b n s := fun n s => (t.2 n s).trans mem_append
  have wt : WfC (tidyS (a ++ b)) := wf_sub t.1 (fun n s h => by
    rcases (tm n s).1 h with q | q
    · exact wf_mem wa q
    · exact wf_mem wb q)
  refine ⟨?_, chk_of_wf wt (by omega), tl, tm⟩
  unfold joinE
  rw [if_pos ⟨ha, hb⟩, bound_le (by omega)]
end
section
set_option linter.unusedSimpArgs false
set_option linter.unusedVariables false

theorem flat_drop : ∀ (xs : List (Int × Int × Int)) (i : Nat), (xs.flatMap spanB).drop (9 * i) = (xs.drop i).flatMap spanB
  | xs, 0 => by simp
  | [], i + 1 => by simp
  | x :: xs, i + 1 => by
    rw [List.flatMap_cons, List.drop_succ_cons, ← flat_drop xs i, Nat.mul_succ, Nat.add_comm, ← List.drop_drop]
    congr 1
theorem readS_bytes (ys : List UInt8) : (readS ys).1.length ≤ ys.length := by
  unfold readS
  split
  · simp
  · split
    · split
      · rw [spansR_len]; omega
      · simp
    · simp
end
section
open Go.RowKit Go.Lib
set_option linter.unusedSimpArgs false
set_option linter.unusedVariables false


/-- What is read, piece by piece. -/
def jT (xs : List UInt8) : List UInt8 × Nat × Int × Int := rRaw xs 0 0 0 77
def jX (xs : List UInt8) : List UInt8 × Nat × Int × Int := rRaw xs (jT xs).2.1 (jT xs).2.2.1 (jT xs).2.2.2 1100
def jP (xs : List UInt8) : List UInt8 × Nat × Int × Int := rRaw xs (jX xs).2.1 (jX xs).2.2.1 (jX xs).2.2.2 40000
def jN (xs : List UInt8) : Int × Nat × Int × Int := rNum xs (jP xs).2.1 (jP xs).2.2.1 (jP xs).2.2.2 0 1099511627776
def jF (xs : List UInt8) : Int × Int := endR xs (jN xs).2.1 (jN xs).2.2.1 (jN xs).2.2.2
def zeroI : InP := ⟨[], 0, 0, [], [], 0⟩
def inOf (xs : List UInt8) : InP := ⟨(jT xs).1, (readE (jX xs).1).1.1, (readE (jX xs).1).1.2.1, (readE (jX xs).1).1.2.2, (readS (jP xs).1).1, (jN xs).1⟩
/-- What bytes read as: the intent; the fault. -/
def readI (xs : List UInt8) : InP × Int × Int :=
  if (jF xs).1 ≠ 0 then (zeroI, jF xs) else if (readE (jX xs).1).2.1 = 0 ∧ (readS (jP xs).1).2.1 = 0 ∧ chkI (inOf xs) = 0 then (inOf xs, (0, 0)) else (zeroI, (2, 0))
theorem readI_fault {xs : List UInt8} (h : (jF xs).1 ≠ 0) : readI xs = (zeroI, jF xs) := if_pos h
theorem readI_bad {xs : List UInt8} (h : (jF xs).1 = 0) (h2 : ¬ ((readE (jX xs).1).2.1 = 0 ∧ (readS (jP xs).1).2.1 = 0 ∧ chkI (inOf xs) = 0)) : readI xs = (zeroI, (2, 0)) := by
  unfold readI
  rw [if_neg (fun q => q h), if_neg h2]
theorem readI_good {xs : List UInt8} (h : (jF xs).1 = 0) (h2 : (readE (jX xs).1).2.1 = 0 ∧ (readS (jP xs).1).2.1 = 0 ∧ chkI (inOf xs) = 0) : readI xs = (inOf xs, (0, 0)) := by
  unfold readI
  rw [if_neg (fun q => q h), if_pos h2]
theorem readE_lenI (ys : List UInt8) : (readE ys).1.2.2.length ≤ ys.length := by
  unfold readE
  split
  · simp
  · split
    · exact (rRaw_le (rNum_le (rNum_le (Nat.zero_le _)))).1
    · simp
theorem jF_zero {xs : List UInt8} (h : (jF xs).1 = 0) : (jF xs).2 = 0 := by
  unfold jF at h
  obtain ⟨z5, e5, _⟩ := endR_calm h
  have z5' := z5
  unfold jN at z5'
  obtain ⟨z4, e4⟩ := rNum_calm z5'
  have z4' := z4
  unfold jP at z4'
  obtain ⟨z3, e3⟩ := rRaw_calm z4'
  have z3' := z3
  unfold jX at z3'
  obtain ⟨z2, e2⟩ := rRaw_calm z3'
  have z2' := z2
  unfold jT at z2'
  obtain ⟨z1, e1⟩ := rRaw_calm z2'
  show (endR xs (jN xs).2.1 (jN xs).2.2.1 (jN xs).2.2.2).2 = 0
  rw [e5]
  show (rNum xs (jP xs).2.1 (jP xs).2.2.1 (jP xs).2.2.2 0 1099511627776).2.2.2 = 0
  rw [e4]
  show (rRaw xs (jX xs).2.1 (jX xs).2.2.1 (jX xs).2.2.2 40000).2.2.2 = 0
  rw [e3]
  show (rRaw xs (jT xs).2.1 (jT xs).2.2.1 (jT xs).2.2.2 1100).2.2.2 = 0
  rw [e2]
  show (rRaw xs 0 0 0 77).2.2.2 = 0
  rw [e1]
def ReadIPost (w : World) (q : InP × Int × Int) (r : Ending) (w' : World) : Prop :=
  ∃ X : InT, r = .returned (.tuple #[.agg #[.string X.p, .int .i64 X.k, .int .i64 X.m, .slice X.A X.l X.c, .slice X.B X.bl X.bc, .int .i64 X.t], .agg #[.int .i64 q.2.1, .int .i64 q.2.2]]) ∧ InR w' X q.1 ∧ OwnK spanTy w' X.B X.bc q.1.q ∧ (∀ a, X.B = some a → w.heap.size ≤ a.block) ∧ Chg [] w w'
theorem Rs.pleI {w w' : World} {b : Nat} {xs : List UInt8} {p : Nat} {fe fa : Int} (h : Rs w w' b xs p fe fa) : p ≤ xs.length := by
  obtain ⟨g, _, _, _, _, h5, _⟩ := h
  exact h5
theorem Us.overI {S : List Nat} {w w1 w2 : World} {v : Nat} {A : Option Addr} {c : Nat} {xs : List UInt8} {p : Nat} {fe fa : Int} (h : Us w w1 v A c xs p fe fa) (hc : Chg S w1 w2) (hv : v ∉ S) (hS : ∀ i ∈ S, w.heap.size ≤ i) : Us w w2 v A c xs p fe fa :=
  have hC := h.2.2.1.trans' hc (fun i hi => .inr (hS i hi))
  ⟨⟨hc.at_ h.1.1 hv, h.2.2.2.1.chg hC (by simp), h.1.2.2⟩, h.2.1, hC, h.2.2.2⟩
theorem Us.ltI {w w' : World} {v : Nat} {A : Option Addr} {c : Nat} {xs : List UInt8} {p : Nat} {fe fa : Int} (h : Us w w' v A c xs p fe fa) : v < w'.heap.size := lt_of_heap h.1.1

set_option maxHeartbeats 4000000 in
theorem put62 {w : World} {s0 s1 : Nat} {a0 a1 a2 a3 a4 a5 b0 b1 : Value} {T T' : TypeId} (v0 v1 v2 v3 v4 v5 u0 u1 : Value) (q0 : w.heap[s0]? = some (.cells #[a0, a1, a2, a3, a4, a5] T (0, 0))) (q1 : w.heap[s1]? = some (.cells #[b0, b1] T' (0, 0))) (h : s0 ≠ s1) :
    ((((((((w.setCell ⟨s0, 0, none⟩ v0).setCell ⟨s0, 1, none⟩ v1).setCell ⟨s0, 2, none⟩ v2).setCell ⟨s0, 3, none⟩ v3).setCell ⟨s0, 4, none⟩ v4).setCell ⟨s0, 5, none⟩ v5).setCell ⟨s1, 0, none⟩ u0).setCell ⟨s1, 1, none⟩ u1).heap[s0]? = some (.cells #[v0, v1, v2, v3, v4, v5] T (0, 0)) ∧
    ((((((((w.setCell ⟨s0, 0, none⟩ v0).setCell ⟨s0, 1, none⟩ v1).setCell ⟨s0, 2, none⟩ v2).setCell ⟨s0, 3, none⟩ v3).setCell ⟨s0, 4, none⟩ v4).setCell ⟨s0, 5, none⟩ v5).setCell ⟨s1, 0, none⟩ u0).setCell ⟨s1, 1, none⟩ u1).heap[s1]? = some (.cells #[u0, u1] T' (0, 0)) := by
  have p0 := heap_setCell_same _ s0 0 _ _ v0 q0
  have p1 := heap_setCell_same _ s0 1 _ _ v1 p0
  have p2 := heap_setCell_same _ s0 2 _ _ v2 p1
  have p3 := heap_setCell_same _ s0 3 _ _ v3 p2
  have p4 := heap_setCell_same _ s0 4 _ _ v4 p3
  have p5 := heap_setCell_same _ s0 5 _ _ v5 p4
  have h' : s1 ≠ s0 := fun e => h e.symm
  have r : ((((((w.setCell ⟨s0, 0, none⟩ v0).setCell ⟨s0, 1, none⟩ v1).setCell ⟨s0, 2, none⟩ v2).setCell ⟨s0, 3, none⟩ v3).setCell ⟨s0, 4, none⟩ v4).setCell ⟨s0, 5, none⟩ v5).heap[s1]? = some (.cells #[b0, b1] T' (0, 0)) := by
    rw [Below.heap_setCell _ _ _ _ (by simpa using h'), Below.heap_setCell _ _ _ _ (by simpa using h'), Below.heap_setCell _ _ _ _ (by simpa using h'), Below.heap_setCell _ _ _ _ (by simpa using h'), Below.heap_setCell _ _ _ _ (by simpa using h'), Below.heap_setCell _ _ _ _ (by simpa using h')]
    exact q1
  have r0 := heap_setCell_same _ s1 0 _ _ u0 r
  have r1 := heap_setCell_same _ s1 1 _ _ u1 r0
  refine ⟨?_, r1⟩
  rw [Below.heap_setCell _ _ _ _ (by simpa using h), Below.heap_setCell _ _ _ _ (by simpa using h)]
  exact p5
set_option maxHeartbeats 4000000 in
theorem setI6 {w : World} {s0 : Nat} {a0 a1 a2 a3 a4 a5 : Value} {T : TypeId} (v0 v1 v2 v3 v4 v5 : Value) (q0 : w.heap[s0]? = some (.cells #[a0, a1, a2, a3, a4, a5] T (0, 0))) :
    ((((((w.setCell ⟨s0, 0, none⟩ v0).setCell ⟨s0, 1, none⟩ v1).setCell ⟨s0, 2, none⟩ v2).setCell ⟨s0, 3, none⟩ v3).setCell ⟨s0, 4, none⟩ v4).setCell ⟨s0, 5, none⟩ v5).heap[s0]? = some (.cells #[v0, v1, v2, v3, v4, v5] T (0, 0)) ∧ (∀ (s1 : Nat) (o : Obj), s0 ≠ s1 → w.heap[s1]? = some o → ((((((w.setCell ⟨s0, 0, none⟩ v0).setCell ⟨s0, 1, none⟩ v1).setCell ⟨s0, 2, none⟩ v2).setCell ⟨s0, 3, none⟩ v3).setCell ⟨s0, 4, none⟩ v4).setCell ⟨s0, 5, none⟩ v5).heap[s1]? = some o) ∧ Chg [s0] w ((((((w.setCell ⟨s0, 0, none⟩ v0).setCell ⟨s0, 1, none⟩ v1).setCell ⟨s0, 2, none⟩ v2).setCell ⟨s0, 3, none⟩ v3).setCell ⟨s0, 4, none⟩ v4).setCell ⟨s0, 5, none⟩ v5) := by
  have p0 := heap_setCell_same _ s0 0 _ _ v0 q0
  have p1 := heap_setCell_same _ s0 1 _ _ v1 p0
  have p2 := heap_setCell_same _ s0 2 _ _ v2 p1
  have p3 := heap_setCell_same _ s0 3 _ _ v3 p2
  have p4 := heap_setCell_same _ s0 4 _ _ v4 p3
  have p5 := heap_setCell_same _ s0 5 _ _ v5 p4
  refine ⟨p5, fun s1 o h q1 => ?_, ?_⟩
  · rw [Below.heap_setCell _ _ _ _ (by simp; exact fun e => h e.symm), Below.heap_setCell _ _ _ _ (by simp; exact fun e => h e.symm), Below.heap_setCell _ _ _ _ (by simp; exact fun e => h e.symm), Below.heap_setCell _ _ _ _ (by simp; exact fun e => h e.symm), Below.heap_setCell _ _ _ _ (by simp; exact fun e => h e.symm), Below.heap_setCell _ _ _ _ (by simp; exact fun e => h e.symm)]
    exact q1
  · exact (((((((Chg.refl [s0] w).put' 0 v0).put' 1 v1).put' 2 v2).put' 3 v3).put' 4 v4).put' 5 v5)
set_option maxHeartbeats 4000000 in
theorem setI2 {w : World} {s0 : Nat} {a0 a1 : Value} {T : TypeId} (v0 v1 : Value) (q0 : w.heap[s0]? = some (.cells #[a0, a1] T (0, 0))) :
    ((w.setCell ⟨s0, 0, none⟩ v0).setCell ⟨s0, 1, none⟩ v1).heap[s0]? = some (.cells #[v0, v1] T (0, 0)) ∧ (∀ (s1 : Nat) (o : Obj), s0 ≠ s1 → w.heap[s1]? = some o → ((w.setCell ⟨s0, 0, none⟩ v0).setCell ⟨s0, 1, none⟩ v1).heap[s1]? = some o) ∧ Chg [s0] w ((w.setCell ⟨s0, 0, none⟩ v0).setCell ⟨s0, 1, none⟩ v1) := by
  have p0 := heap_setCell_same _ s0 0 _ _ v0 q0
  have p1 := heap_setCell_same _ s0 1 _ _ v1 p0
  refine ⟨p1, fun s1 o h q1 => ?_, ?_⟩
  · rw [Below.heap_setCell _ _ _ _ (by simp; exact fun e => h e.symm), Below.heap_setCell _ _ _ _ (by simp; exact fun e => h e.symm)]
    exact q1
  · exact (((Chg.refl [s0] w).put' 0 v0).put' 1 v1)

set_option maxRecDepth 100000 in
set_option maxHeartbeats 16000000 in
theorem inread_any (w : World) (A : Option Addr) (n c : Nat) (xs : List UInt8) (h : Bs w A n xs) (hn : n ≤ 100000) :
    Calls Tryz.prog 10 #[.slice A n c] w (ReadIPost w (readI xs)) := by
  have hl := h.len
  subst hl
  obtain ⟨w0, hw, hc, b0, b1⟩ := news2 w (.cells #[.string ⟨#[]⟩, .int .i64 0, .int .i64 0, .slice none 0 0, .slice none 0 0, .int .i64 0] 27) (.cells #[.int .i64 0, .int .i64 0] 36)
  have W1 := Lib.hid hw
  have H := Lib.hid (h.chg hc (by simp))
  have C := Lib.hid (hc)
  have B0 := Lib.hid (b0)
  have B1 := Lib.hid (b1)
  have HN := Lib.hid (hn)
  generalize hv : readI xs = v
  have HV := Lib.hid hv
  clear hw hc b0 b1 h hn hv
  go_enter Tryz.func10, Tryz.ntmps10
  go_upto_region 1 with fail
  rw [← W1.out]
  generalize hz1 : w.heap.size + 1 = g1 at *
  generalize hz0 : w.heap.size = g0 at *
  have Z := Lib.hid (And.intro hz0 (hz1))
  have n01 : ¬ g0 = g1 := by omega
  have n10 : ¬ g1 = g0 := by omega
  clear W1 hz0 hz1
  go_wp2_with fail
  refine (rs_open w0 w0 A xs.length c xs (Chg.refl _ _) H.out (by have := HN.out; omega)).mono ?_
  rintro e w1 ⟨b, rfl, h1⟩
  have K := Lib.hid h1
  clear h1
  have LT : Hid ((jT xs).1.length ≤ xs.length) := Lib.hid (rRaw_le K.out.pleI).1
  go_wp2_with fail
  have r1 := rs_text w0 w1 b xs 0 0 0 77 K.out
  change Calls _ _ _ _ (fun r w' => r = .returned (.string (strOf (jT xs).1)) ∧ Rs w0 w' b xs (jT xs).2.1 (jT xs).2.2.1 (jT xs).2.2.2 ∧ _) at r1
  refine r1.mono ?_
  rintro e w2 ⟨rfl, h3, hc⟩
  replace K := Lib.hid h3
  clear h3 r1 hc
  have LX : Hid ((jX xs).1.length ≤ xs.length) := Lib.hid (rRaw_le K.out.pleI).1
  go_wp2_with fail
  have r1 := rs_raw w0 w2 b xs _ _ _ 1100 K.out
  change Calls _ _ _ _ (fun r w' => ∃ A1 c1, r = .returned (.slice A1 (jX xs).1.length c1) ∧ OwnB w' A1 c1 (jX xs).1 ∧ (∀ a, A1 = some a → w2.heap.size ≤ a.block) ∧ Rs w0 w' b xs (jX xs).2.1 (jX xs).2.2.1 (jX xs).2.2.2 ∧ _) at r1
  refine r1.mono ?_
  rintro e w3 ⟨A6, c6, rfl, o6, n6, h3, hc⟩
  have O6 := Lib.hid o6
  have N6 : Hid (∀ a, A6 = some a → a.block ≠ b) := Lib.hid (fun a ha => by have := n6 a ha; obtain ⟨g, h1, _⟩ := K.out; have := lt_of_heap h1.choose_spec.choose_spec.1; omega)
  replace K := Lib.hid h3
  clear h3 r1 hc o6 n6
  have LP : Hid ((jP xs).1.length ≤ xs.length) := Lib.hid (rRaw_le K.out.pleI).1
  go_wp2_with fail
  have r1 := rs_raw w0 w3 b xs _ _ _ 40000 K.out
  change Calls _ _ _ _ (fun r w' => ∃ A1 c1, r = .returned (.slice A1 (jP xs).1.length c1) ∧ OwnB w' A1 c1 (jP xs).1 ∧ (∀ a, A1 = some a → w3.heap.size ≤ a.block) ∧ Rs w0 w' b xs (jP xs).2.1 (jP xs).2.2.1 (jP xs).2.2.2 ∧ _) at r1
  refine r1.mono ?_
  rintro e w4 ⟨A7, c7, rfl, o7, n7, h3, hc⟩
  have O7 := Lib.hid o7
  have N7 : Hid (∀ a, A7 = some a → a.block ≠ b) := Lib.hid (fun a ha => by have := n7 a ha; obtain ⟨g, h1, _⟩ := K.out; have := lt_of_heap h1.choose_spec.choose_spec.1; omega)
  replace O6 := Lib.hid (O6.out.chg hc (fun a ha => by simp; exact N6.out a ha))
  replace K := Lib.hid h3
  clear h3 r1 hc o7 n7
  go_wp2_with fail
  have r1 := rs_num w0 w4 b xs _ _ _ 0 1099511627776 K.out
  change Calls _ _ _ _ (fun r w' => r = .returned (.int .i64 (jN xs).1) ∧ Rs w0 w' b xs (jN xs).2.1 (jN xs).2.2.1 (jN xs).2.2.2 ∧ _) at r1
  refine r1.mono ?_
  rintro e w5 ⟨rfl, h3, hc⟩
  replace O6 := Lib.hid (O6.out.chg hc (fun a ha => by simp; exact N6.out a ha))
  replace O7 := Lib.hid (O7.out.chg hc (fun a ha => by simp; exact N7.out a ha))
  replace K := Lib.hid h3
  clear h3 r1 hc
  go_wp2_with fail
  have r1 := rs_end w0 w5 b xs _ _ _ K.out
  change Calls _ _ _ _ (fun r w' => r = .returned (.agg #[.int .i64 (jF xs).1, .int .i64 (jF xs).2]) ∧ _) at r1
  refine r1.mono ?_
  rintro e w6 ⟨rfl, hc⟩
  have hd := K.out.chg.trans hc
  replace O6 := Lib.hid (O6.out.chg hc (by simp))
  replace O7 := Lib.hid (O7.out.chg hc (by simp))
  replace C := Lib.hid (C.out.trans hd)
  replace B0 := Lib.hid (hd.at_ B0.out (by simp))
  replace B1 := Lib.hid (hd.at_ B1.out (by simp))
  clear hc hd r1 K N6 N7
  obtain ⟨w7, hw, hc, b9⟩ := news1 w6 (.cells #[.int .i64 (jF xs).1, .int .i64 (jF xs).2] 36)
  have W7 := Lib.hid hw
  have B9 := Lib.hid b9
  have Ns9 : Hid (¬ g0 = w6.heap.size ∧ ¬ g1 = w6.heap.size) := Lib.hid (by have := lt_of_heap B0.out; have := lt_of_heap B1.out; omega)
  replace C := Lib.hid (C.out.trans hc)
  replace B0 := Lib.hid (hc.at_ B0.out (by simp))
  replace B1 := Lib.hid (hc.at_ B1.out (by simp))
  replace O6 := Lib.hid (O6.out.chg hc (by simp))
  replace O7 := Lib.hid (O7.out.chg hc (by simp))
  clear hc
  clear hw b9
  go_upto_region 4 with fail
  rw [← W7.out]
  generalize w6.heap.size = s9 at *
  clear W7
  have y0 := cell_of B9.out 0
  have y1 := cell_of B9.out 1
  simp only [List.getElem?_toArray, List.getElem?_cons_succ, List.getElem?_cons_zero] at y0 y1
  by_cases he : (jF xs).1 = 0
  rotate_left
  · skip
    have he' : ((jF xs).1 != 0) = true := bne_iff_ne.2 he
    have e3 : ((jF xs).1 == 0) = false := beq_eq_false_iff_ne.2 he
    obtain rfl : v = (zeroI, jF xs) := by rw [← HV.out]; exact readI_fault he
    go_upto_region 5 with fail
    clear HV he he' e3
    clear y0 y1
    have n0s9 : ¬ g0 = s9 := Ns9.out.1
    have n1s9 : ¬ g1 = s9 := Ns9.out.2
    have CD := Lib.hid (Chg.refl [] w7).drew
    have C0_ := C
    replace C := Lib.hid (C.out.trans CD.out)
    replace B0 := Lib.hid (CD.out.at_ B0.out (by simp))
    replace B1 := Lib.hid (CD.out.at_ B1.out (by simp))
    have D_s9 := Lib.hid (CD.out.at_ B9.out (by simp))
    refine wp_region_held_drew (S := fun w' => w'.cell? ⟨s9, 0, none⟩ = some (.int .i64 (jF xs).1) ∧ w'.cell? ⟨s9, 1, none⟩ = some (.int .i64 (jF xs).2)) (by kernel_rfl) ⟨cell_of D_s9.out 0, cell_of D_s9.out 1⟩ (fun hHeld => ?_)
    clear CD hHeld C0_
    generalize w7.drew = wc at *
    refine sy 0 30 rfl rfl ?_ (hS := ⟨cell_of D_s9.out 0, cell_of D_s9.out 1⟩)
    try simp only [Act.put, sA, s0, s1]
    refine sy 1 31 rfl rfl ?_ (hS := ⟨cell_of D_s9.out 0, cell_of D_s9.out 1⟩) (hy := by (intro w hSw; (try dsimp only at hSw); obtain ⟨q0, q1⟩ := hSw; go_simp; try with_reducible rfl))
    try simp only [Act.put, sA, s0, s1]
    refine wpAnyH_ready (rs := [2]) (by kernel_rfl) (by simp) ?_
    refine AllReadyH.cons rfl (fun K hK => ?_) AllReadyH.nil
    replace hK := Lib.hid hK
    have t0 := cell_of B0.out 0
    have t1 := cell_of B0.out 1
    have t2 := cell_of B0.out 2
    have t3 := cell_of B0.out 3
    have t4 := cell_of B0.out 4
    have t5 := cell_of B0.out 5
    have ft0 := free_of B0.out 0
    have ft1 := free_of B0.out 1
    have ft2 := free_of B0.out 2
    have ft3 := free_of B0.out 3
    have ft4 := free_of B0.out 4
    have ft5 := free_of B0.out 5
    simp only [List.getElem?_toArray, List.getElem?_cons_succ, List.getElem?_cons_zero] at t0 t1 t2 t3 t4 t5
    go_simp
    clear t0 t1 t2 t3 t4 t5 ft0 ft1 ft2 ft3 ft4 ft5
    obtain ⟨p0, p1, p2⟩ := setI6 (.string ⟨#[]⟩) (.int .i64 0) (.int .i64 0) (.slice none 0 0) (.slice none 0 0) (.int .i64 0) B0.out
    generalize ((((((wc.setCell ⟨g0, 0, none⟩ (.string ⟨#[]⟩)).setCell ⟨g0, 1, none⟩ (.int .i64 0)).setCell ⟨g0, 2, none⟩ (.int .i64 0)).setCell ⟨g0, 3, none⟩ (.slice none 0 0)).setCell ⟨g0, 4, none⟩ (.slice none 0 0)).setCell ⟨g0, 5, none⟩ (.int .i64 0)) = wa at *
    have Q0 := Lib.hid p0
    have Q1 := Lib.hid (p1 g1 _ n01 B1.out)
    have Q_s9 := Lib.hid (p1 s9 _ n0s9 D_s9.out)
    have CA := Lib.hid p2
    clear p0 p1 p2
    refine hK.out _ _ ⟨cell_of Q_s9.out 0, cell_of Q_s9.out 1⟩ (fun hHeld => ?_)
    clear hK K
    try simp only [Act.put, sA, s0, s1]
    refine wpAnyH_ready (rs := [3]) (by kernel_rfl) (by simp) ?_
    refine AllReadyH.cons rfl (fun K hK => ?_) AllReadyH.nil
    replace hK := Lib.hid hK
    have u0 := cell_of Q1.out 0
    have u1 := cell_of Q1.out 1
    have fu0 := free_of Q1.out 0
    have fu1 := free_of Q1.out 1
    simp only [List.getElem?_toArray, List.getElem?_cons_succ, List.getElem?_cons_zero] at u0 u1
    go_simp
    clear u0 u1 fu0 fu1
    obtain ⟨p0, p1, p2⟩ := setI2 (.int .i64 (jF xs).1) (.int .i64 (jF xs).2) Q1.out
    generalize ((wa.setCell ⟨g1, 0, none⟩ (.int .i64 (jF xs).1)).setCell ⟨g1, 1, none⟩ (.int .i64 (jF xs).2)) = wz at *
    have P9 := And.intro (p1 g0 _ n10 Q0.out) p0
    have R_s9 := Lib.hid (p1 s9 _ n1s9 Q_s9.out)
    have C9 : Chg [g0, g1] wc wz := (CA.out.mono (fun i hi => .inl (by simp at hi; simp [hi]))).trans (p2.mono (fun i hi => .inl (by simp at hi; simp [hi])))
    clear p0 p1 p2
    refine hK.out _ _ ⟨cell_of R_s9.out 0, cell_of R_s9.out 1⟩ (fun hHeld => ?_)
    clear hK K
    try simp only [Act.put, sA, s0, s1]
    refine wpAnyH_done (by kernel_rfl) ?_ _
    clear hHeld
    go_wp2
    have P0 := Lib.hid P9.1
    have P1 := Lib.hid P9.2
    have t0 := cell_of P0.out 0
    have t1 := cell_of P0.out 1
    have t2 := cell_of P0.out 2
    have t3 := cell_of P0.out 3
    have t4 := cell_of P0.out 4
    have t5 := cell_of P0.out 5
    simp only [List.getElem?_toArray, List.getElem?_cons_succ, List.getElem?_cons_zero] at t0 t1 t2 t3 t4 t5
    have u0 := cell_of P1.out 0
    have u1 := cell_of P1.out 1
    simp only [List.getElem?_toArray, List.getElem?_cons_succ, List.getElem?_cons_zero] at u0 u1
    refine bodyPost_ret (v := .tuple #[.agg #[.string ⟨#[]⟩, .int .i64 0, .int .i64 0, .slice none 0 0, .slice none 0 0, .int .i64 0], .agg #[.int .i64 (jF xs).1, .int .i64 (jF xs).2]]) (by simp [results, Tryz.results10, go_sem, t0, t1, t2, t3, t4, t5, u0, u1]) rfl ?_
    refine ⟨⟨⟨#[]⟩, 0, 0, none, 0, 0, none, 0, 0, 0⟩, rfl, ⟨rfl, rfl, rfl, rfl, rfl, Bs.nil _ _, RdK.nil _ _, rfl⟩, OwnK.none_ _, by simp, C.out.trans' C9 (fun i hi => .inr (by have := Z.out; simp at hi; omega))⟩
  have he' : ((jF xs).1 != 0) = false := by simpa using he
  have FZ := Lib.hid (jF_zero he)
  have HE := Lib.hid he
  clear he
  go_wp2_with fail
  clear he'
  clear y0 y1
  refine (eread_any w7 A6 _ c6 (jX xs).1 O6.out.reads (by have := LX.out; have := HN.out; omega)).mono ?_
  rintro e w8 ⟨A10, c10, rfl, h10⟩
  have hc := h10.2.2
  have O10 := Lib.hid h10.1
  have N10 : Hid (∀ a, A10 = some a → g0 < a.block ∧ g1 < a.block) := Lib.hid (fun a ha => by have := h10.2.1 a ha; have := lt_of_heap B0.out; have := lt_of_heap B1.out; omega)
  replace C := Lib.hid (C.out.trans hc)
  replace B0 := Lib.hid (hc.at_ B0.out (by simp))
  replace B1 := Lib.hid (hc.at_ B1.out (by simp))
  replace O7 := Lib.hid (O7.out.chg hc (by simp))
  replace B9 := Lib.hid (hc.at_ B9.out (by simp))
  clear hc
  clear h10 O6
  have REL : Hid ((readE (jX xs).1).1.2.2.length ≤ (jX xs).1.length) := Lib.hid (readE_lenI _)
  obtain ⟨RE, hRE⟩ : ∃ q, readE (jX xs).1 = q := ⟨_, rfl⟩
  have HRE := Lib.hid hRE
  rw [hRE] at O10 REL ⊢
  clear hRE
  obtain ⟨w9, hw, hc, b10, b11⟩ := news2 w8 (.cells #[.int .i64 RE.1.1, .int .i64 RE.1.2.1, .slice A10 RE.1.2.2.length c10] 24) (.cells #[.int .i64 RE.2.1, .int .i64 RE.2.2] 36)
  have W9 := Lib.hid hw
  have B10 := Lib.hid b10
  have B11 := Lib.hid b11
  replace C := Lib.hid (C.out.trans hc)
  replace B0 := Lib.hid (hc.at_ B0.out (by simp))
  replace B1 := Lib.hid (hc.at_ B1.out (by simp))
  replace O7 := Lib.hid (O7.out.chg hc (by simp))
  replace O10 := Lib.hid (O10.out.chg hc (by simp))
  replace B9 := Lib.hid (hc.at_ B9.out (by simp))
  clear hc
  clear hw b10 b11
  go_upto_region 7 with fail
  rw [← W9.out]
  generalize w8.heap.size + 1 = s11 at *
  generalize w8.heap.size = s10 at *
  clear W9
  go_wp2_with fail
  refine (paread_any w9 A7 _ c7 (jP xs).1 O7.out.reads (by have := LP.out; have := HN.out; omega) O7.out.cap.1 (by have := O7.out.cap.2; unfold maxLen at this; omega)).mono ?_
  rintro e wa ⟨A13, c13, rfl, hO, hN, hc⟩
  have P13 := Lib.hid hO
  have N13 : Hid (∀ a, A13 = some a → g0 < a.block ∧ g1 < a.block) := Lib.hid (fun a ha => by have := hN a ha; have := lt_of_heap B0.out; have := lt_of_heap B1.out; omega)
  replace C := Lib.hid (C.out.trans hc)
  replace B0 := Lib.hid (hc.at_ B0.out (by simp))
  replace B1 := Lib.hid (hc.at_ B1.out (by simp))
  replace O10 := Lib.hid (O10.out.chg hc (by simp))
  replace B9 := Lib.hid (hc.at_ B9.out (by simp))
  replace B10 := Lib.hid (hc.at_ B10.out (by simp))
  replace B11 := Lib.hid (hc.at_ B11.out (by simp))
  clear hc
  clear hO hN O7
  have QL : Hid ((readS (jP xs).1).1.length ≤ (jP xs).1.length) := Lib.hid (readS_bytes _)
  obtain ⟨QE, hQE⟩ : ∃ q, readS (jP xs).1 = q := ⟨_, rfl⟩
  have HQE := Lib.hid hQE
  rw [hQE] at P13 QL ⊢
  clear hQE
  obtain ⟨wb, hw, hc, b13⟩ := news1 wa (.cells #[.int .i64 QE.2.1, .int .i64 QE.2.2] 36)
  have WB := Lib.hid hw
  have B13 := Lib.hid b13
  replace C := Lib.hid (C.out.trans hc)
  replace B0 := Lib.hid (hc.at_ B0.out (by simp))
  replace B1 := Lib.hid (hc.at_ B1.out (by simp))
  replace O10 := Lib.hid (O10.out.chg hc (by simp))
  replace P13 := Lib.hid (P13.out.chg hc (by simp))
  replace B9 := Lib.hid (hc.at_ B9.out (by simp))
  replace B10 := Lib.hid (hc.at_ B10.out (by simp))
  replace B11 := Lib.hid (hc.at_ B11.out (by simp))
  clear hc
  clear hw b13
  go_upto_region 8 with fail
  rw [← WB.out]
  generalize wa.heap.size = s13 at *
  clear WB
  have z0 := cell_of B10.out 0
  have z1 := cell_of B10.out 1
  have z2 := cell_of B10.out 2
  simp only [List.getElem?_toArray, List.getElem?_cons_succ, List.getElem?_cons_zero] at z0 z1 z2
  obtain ⟨wd, hw, hc, b14⟩ := news1 wb (.cells #[.string (strOf (jT xs).1), .int .i64 RE.1.1, .int .i64 RE.1.2.1, .slice A10 RE.1.2.2.length c10, .slice A13 QE.1.length c13, .int .i64 (jN xs).1] 27)
  have WD := Lib.hid hw
  have B14 := Lib.hid b14
  replace C := Lib.hid (C.out.trans hc)
  replace B0 := Lib.hid (hc.at_ B0.out (by simp))
  replace B1 := Lib.hid (hc.at_ B1.out (by simp))
  replace O10 := Lib.hid (O10.out.chg hc (by simp))
  replace P13 := Lib.hid (P13.out.chg hc (by simp))
  replace B9 := Lib.hid (hc.at_ B9.out (by simp))
  replace B11 := Lib.hid (hc.at_ B11.out (by simp))
  replace B13 := Lib.hid (hc.at_ B13.out (by simp))
  clear hc
  clear hw b14
  go_upto_region 9 with fail
  rw [← WD.out]
  generalize wb.heap.size = s14 at *
  clear WD
  clear z0 z1 z2
  have eo : inOf xs = ⟨(jT xs).1, RE.1.1, RE.1.2.1, RE.1.2.2, QE.1, (jN xs).1⟩ := by unfold inOf; rw [HRE.out, HQE.out]
  have EO := Lib.hid eo
  clear eo
  have ER : Hid (InR wd ⟨strOf (jT xs).1, RE.1.1, RE.1.2.1, A10, RE.1.2.2.length, c10, A13, QE.1.length, c13, (jN xs).1⟩ (inOf xs)) := Lib.hid (by
    rw [EO.out]
    exact ⟨rfl, rfl, rfl, rfl, rfl, O10.out.reads, P13.out.reads, rfl⟩)
  have ES : Hid (InSm (inOf xs)) := Lib.hid (by
    rw [EO.out]
    unfold InSm
    have a1 := HN.out
    have a2 := LT.out
    have a3 := LX.out
    have a4 := LP.out
    have a5 := REL.out
    have a6 := QL.out
    simp only
    omega)
  by_cases k1 : RE.2.1 = 0
  rotate_left
  · skip
    have k1b : (RE.2.1 != 0) = true := bne_iff_ne.2 k1
    have k1c : (RE.2.1 == 0) = false := beq_eq_false_iff_ne.2 k1
    have u0 := cell_of B11.out 0
    have t0 := cell_of B13.out 0
    simp only [List.getElem?_toArray, List.getElem?_cons_succ, List.getElem?_cons_zero] at u0 t0
    obtain rfl : v = (zeroI, (2, 0)) := by rw [← HV.out]; exact readI_bad HE.out (fun q => k1 (by have r := q.1; rw [HRE.out] at r; exact r))
    go_upto_region 10 with fail
    clear HV u0 t0 k1b k1c k1
    have t0 := cell_of B0.out 0
    have t1 := cell_of B0.out 1
    have t2 := cell_of B0.out 2
    have t3 := cell_of B0.out 3
    have t4 := cell_of B0.out 4
    have t5 := cell_of B0.out 5
    have ft0 := free_of B0.out 0
    have ft1 := free_of B0.out 1
    have ft2 := free_of B0.out 2
    have ft3 := free_of B0.out 3
    have ft4 := free_of B0.out 4
    have ft5 := free_of B0.out 5
    simp only [List.getElem?_toArray, List.getElem?_cons_succ, List.getElem?_cons_zero] at t0 t1 t2 t3 t4 t5
    have u0 := cell_of B1.out 0
    have u1 := cell_of B1.out 1
    have fu0 := free_of B1.out 0
    have fu1 := free_of B1.out 1
    simp only [List.getElem?_toArray, List.getElem?_cons_succ, List.getElem?_cons_zero] at u0 u1
    go_wp2
    clear t0 t1 t2 t3 t4 t5 ft0 ft1 ft2 ft3 ft4 ft5
    clear u0 u1 fu0 fu1
    have P9 := put62 (.string ⟨#[]⟩) (.int .i64 0) (.int .i64 0) (.slice none 0 0) (.slice none 0 0) (.int .i64 0) (.int .i64 2) (.int .i64 0) B0.out B1.out n01
    have C9 : Chg [g0, g1] wd ((((((((wd.setCell ⟨g0, 0, none⟩ (.string ⟨#[]⟩)).setCell ⟨g0, 1, none⟩ (.int .i64 0)).setCell ⟨g0, 2, none⟩ (.int .i64 0)).setCell ⟨g0, 3, none⟩ (.slice none 0 0)).setCell ⟨g0, 4, none⟩ (.slice none 0 0)).setCell ⟨g0, 5, none⟩ (.int .i64 0)).setCell ⟨g1, 0, none⟩ (.int .i64 2)).setCell ⟨g1, 1, none⟩ (.int .i64 0)) := (((((((((Chg.refl [g0, g1] wd).setCell (p := ⟨g0, 0, none⟩) (.inl (by simp)) _).setCell (p := ⟨g0, 1, none⟩) (.inl (by simp)) _).setCell (p := ⟨g0, 2, none⟩) (.inl (by simp)) _).setCell (p := ⟨g0, 3, none⟩) (.inl (by simp)) _).setCell (p := ⟨g0, 4, none⟩) (.inl (by simp)) _).setCell (p := ⟨g0, 5, none⟩) (.inl (by simp)) _).setCell (p := ⟨g1, 0, none⟩) (.inl (by simp)) _).setCell (p := ⟨g1, 1, none⟩) (.inl (by simp)) _)
    generalize ((((((((wd.setCell ⟨g0, 0, none⟩ (.string ⟨#[]⟩)).setCell ⟨g0, 1, none⟩ (.int .i64 0)).setCell ⟨g0, 2, none⟩ (.int .i64 0)).setCell ⟨g0, 3, none⟩ (.slice none 0 0)).setCell ⟨g0, 4, none⟩ (.slice none 0 0)).setCell ⟨g0, 5, none⟩ (.int .i64 0)).setCell ⟨g1, 0, none⟩ (.int .i64 2)).setCell ⟨g1, 1, none⟩ (.int .i64 0)) = wz at *
    have P0 := Lib.hid P9.1
    have P1 := Lib.hid P9.2
    have t0 := cell_of P0.out 0
    have t1 := cell_of P0.out 1
    have t2 := cell_of P0.out 2
    have t3 := cell_of P0.out 3
    have t4 := cell_of P0.out 4
    have t5 := cell_of P0.out 5
    simp only [List.getElem?_toArray, List.getElem?_cons_succ, List.getElem?_cons_zero] at t0 t1 t2 t3 t4 t5
    have u0 := cell_of P1.out 0
    have u1 := cell_of P1.out 1
    simp only [List.getElem?_toArray, List.getElem?_cons_succ, List.getElem?_cons_zero] at u0 u1
    refine bodyPost_ret (v := .tuple #[.agg #[.string ⟨#[]⟩, .int .i64 0, .int .i64 0, .slice none 0 0, .slice none 0 0, .int .i64 0], .agg #[.int .i64 2, .int .i64 0]]) (by simp [results, Tryz.results10, go_sem, t0, t1, t2, t3, t4, t5, u0, u1]) rfl ?_
    refine ⟨⟨⟨#[]⟩, 0, 0, none, 0, 0, none, 0, 0, 0⟩, rfl, ⟨rfl, rfl, rfl, rfl, rfl, Bs.nil _ _, RdK.nil _ _, rfl⟩, OwnK.none_ _, by simp, C.out.trans' C9 (fun i hi => .inr (by have := Z.out; simp at hi; omega))⟩
  by_cases k2 : QE.2.1 = 0
  rotate_left
  · skip
    have k2b : (QE.2.1 != 0) = true := bne_iff_ne.2 k2
    have k2c : (QE.2.1 == 0) = false := beq_eq_false_iff_ne.2 k2
    have u0 := cell_of B11.out 0
    have t0 := cell_of B13.out 0
    simp only [List.getElem?_toArray, List.getElem?_cons_succ, List.getElem?_cons_zero] at u0 t0
    rw [k1] at u0
    obtain rfl : v = (zeroI, (2, 0)) := by rw [← HV.out]; exact readI_bad HE.out (fun q => k2 (by have r := q.2.1; rw [HQE.out] at r; exact r))
    go_upto_region 10 with fail
    clear HV u0 t0 k2b k2c k2 k1
    have t0 := cell_of B0.out 0
    have t1 := cell_of B0.out 1
    have t2 := cell_of B0.out 2
    have t3 := cell_of B0.out 3
    have t4 := cell_of B0.out 4
    have t5 := cell_of B0.out 5
    have ft0 := free_of B0.out 0
    have ft1 := free_of B0.out 1
    have ft2 := free_of B0.out 2
    have ft3 := free_of B0.out 3
    have ft4 := free_of B0.out 4
    have ft5 := free_of B0.out 5
    simp only [List.getElem?_toArray, List.getElem?_cons_succ, List.getElem?_cons_zero] at t0 t1 t2 t3 t4 t5
    have u0 := cell_of B1.out 0
    have u1 := cell_of B1.out 1
    have fu0 := free_of B1.out 0
    have fu1 := free_of B1.out 1
    simp only [List.getElem?_toArray, List.getElem?_cons_succ, List.getElem?_cons_zero] at u0 u1
    go_wp2
    clear t0 t1 t2 t3 t4 t5 ft0 ft1 ft2 ft3 ft4 ft5
    clear u0 u1 fu0 fu1
    have P9 := put62 (.string ⟨#[]⟩) (.int .i64 0) (.int .i64 0) (.slice none 0 0) (.slice none 0 0) (.int .i64 0) (.int .i64 2) (.int .i64 0) B0.out B1.out n01
    have C9 : Chg [g0, g1] wd ((((((((wd.setCell ⟨g0, 0, none⟩ (.string ⟨#[]⟩)).setCell ⟨g0, 1, none⟩ (.int .i64 0)).setCell ⟨g0, 2, none⟩ (.int .i64 0)).setCell ⟨g0, 3, none⟩ (.slice none 0 0)).setCell ⟨g0, 4, none⟩ (.slice none 0 0)).setCell ⟨g0, 5, none⟩ (.int .i64 0)).setCell ⟨g1, 0, none⟩ (.int .i64 2)).setCell ⟨g1, 1, none⟩ (.int .i64 0)) := (((((((((Chg.refl [g0, g1] wd).setCell (p := ⟨g0, 0, none⟩) (.inl (by simp)) _).setCell (p := ⟨g0, 1, none⟩) (.inl (by simp)) _).setCell (p := ⟨g0, 2, none⟩) (.inl (by simp)) _).setCell (p := ⟨g0, 3, none⟩) (.inl (by simp)) _).setCell (p := ⟨g0, 4, none⟩) (.inl (by simp)) _).setCell (p := ⟨g0, 5, none⟩) (.inl (by simp)) _).setCell (p := ⟨g1, 0, none⟩) (.inl (by simp)) _).setCell (p := ⟨g1, 1, none⟩) (.inl (by simp)) _)
    generalize ((((((((wd.setCell ⟨g0, 0, none⟩ (.string ⟨#[]⟩)).setCell ⟨g0, 1, none⟩ (.int .i64 0)).setCell ⟨g0, 2, none⟩ (.int .i64 0)).setCell ⟨g0, 3, none⟩ (.slice none 0 0)).setCell ⟨g0, 4, none⟩ (.slice none 0 0)).setCell ⟨g0, 5, none⟩ (.int .i64 0)).setCell ⟨g1, 0, none⟩ (.int .i64 2)).setCell ⟨g1, 1, none⟩ (.int .i64 0)) = wz at *
    have P0 := Lib.hid P9.1
    have P1 := Lib.hid P9.2
    have t0 := cell_of P0.out 0
    have t1 := cell_of P0.out 1
    have t2 := cell_of P0.out 2
    have t3 := cell_of P0.out 3
    have t4 := cell_of P0.out 4
    have t5 := cell_of P0.out 5
    simp only [List.getElem?_toArray, List.getElem?_cons_succ, List.getElem?_cons_zero] at t0 t1 t2 t3 t4 t5
    have u0 := cell_of P1.out 0
    have u1 := cell_of P1.out 1
    simp only [List.getElem?_toArray, List.getElem?_cons_succ, List.getElem?_cons_zero] at u0 u1
    refine bodyPost_ret (v := .tuple #[.agg #[.string ⟨#[]⟩, .int .i64 0, .int .i64 0, .slice none 0 0, .slice none 0 0, .int .i64 0], .agg #[.int .i64 2, .int .i64 0]]) (by simp [results, Tryz.results10, go_sem, t0, t1, t2, t3, t4, t5, u0, u1]) rfl ?_
    refine ⟨⟨⟨#[]⟩, 0, 0, none, 0, 0, none, 0, 0, 0⟩, rfl, ⟨rfl, rfl, rfl, rfl, rfl, Bs.nil _ _, RdK.nil _ _, rfl⟩, OwnK.none_ _, by simp, C.out.trans' C9 (fun i hi => .inr (by have := Z.out; simp at hi; omega))⟩
  have u0 := cell_of B11.out 0
  have t0 := cell_of B13.out 0
  simp only [List.getElem?_toArray, List.getElem?_cons_succ, List.getElem?_cons_zero] at u0 t0
  rw [k1] at u0
  rw [k2] at t0
  have z0 := cell_of B14.out 0
  have z1 := cell_of B14.out 1
  have z2 := cell_of B14.out 2
  have z3 := cell_of B14.out 3
  have z4 := cell_of B14.out 4
  have z5 := cell_of B14.out 5
  simp only [List.getElem?_toArray, List.getElem?_cons_succ, List.getElem?_cons_zero] at z0 z1 z2 z3 z4 z5
  go_wp2_with fail
  refine (incheck_any wd ⟨strOf (jT xs).1, RE.1.1, RE.1.2.1, A10, RE.1.2.2.length, c10, A13, QE.1.length, c13, (jN xs).1⟩ (inOf xs) ER.out ES.out).mono ?_
  rintro r we ⟨rfl, hc⟩
  clear z0 z1 z2 z3 z4 z5
  clear u0 t0
  replace ER := Lib.hid (ER.out.chg hc)
  replace C := Lib.hid (C.out.trans hc)
  replace B0 := Lib.hid (hc.at_ B0.out (by simp))
  replace B1 := Lib.hid (hc.at_ B1.out (by simp))
  replace O10 := Lib.hid (O10.out.chg hc (by simp))
  replace P13 := Lib.hid (P13.out.chg hc (by simp))
  replace B9 := Lib.hid (hc.at_ B9.out (by simp))
  replace B14 := Lib.hid (hc.at_ B14.out (by simp))
  clear hc
  rcases chkI_two (inOf xs) with k3 | k3
  rotate_left
  · skip
    rw [k3]
    obtain rfl : v = (zeroI, (2, 0)) := by rw [← HV.out]; exact readI_bad HE.out (fun q => absurd (k3.symm.trans q.2.2) (by decide))
    go_upto_region 10 with fail
    clear HV k3 k1 k2
    have t0 := cell_of B0.out 0
    have t1 := cell_of B0.out 1
    have t2 := cell_of B0.out 2
    have t3 := cell_of B0.out 3
    have t4 := cell_of B0.out 4
    have t5 := cell_of B0.out 5
    have ft0 := free_of B0.out 0
    have ft1 := free_of B0.out 1
    have ft2 := free_of B0.out 2
    have ft3 := free_of B0.out 3
    have ft4 := free_of B0.out 4
    have ft5 := free_of B0.out 5
    simp only [List.getElem?_toArray, List.getElem?_cons_succ, List.getElem?_cons_zero] at t0 t1 t2 t3 t4 t5
    have u0 := cell_of B1.out 0
    have u1 := cell_of B1.out 1
    have fu0 := free_of B1.out 0
    have fu1 := free_of B1.out 1
    simp only [List.getElem?_toArray, List.getElem?_cons_succ, List.getElem?_cons_zero] at u0 u1
    go_wp2
    clear t0 t1 t2 t3 t4 t5 ft0 ft1 ft2 ft3 ft4 ft5
    clear u0 u1 fu0 fu1
    have P9 := put62 (.string ⟨#[]⟩) (.int .i64 0) (.int .i64 0) (.slice none 0 0) (.slice none 0 0) (.int .i64 0) (.int .i64 2) (.int .i64 0) B0.out B1.out n01
    have C9 : Chg [g0, g1] we ((((((((we.setCell ⟨g0, 0, none⟩ (.string ⟨#[]⟩)).setCell ⟨g0, 1, none⟩ (.int .i64 0)).setCell ⟨g0, 2, none⟩ (.int .i64 0)).setCell ⟨g0, 3, none⟩ (.slice none 0 0)).setCell ⟨g0, 4, none⟩ (.slice none 0 0)).setCell ⟨g0, 5, none⟩ (.int .i64 0)).setCell ⟨g1, 0, none⟩ (.int .i64 2)).setCell ⟨g1, 1, none⟩ (.int .i64 0)) := (((((((((Chg.refl [g0, g1] we).setCell (p := ⟨g0, 0, none⟩) (.inl (by simp)) _).setCell (p := ⟨g0, 1, none⟩) (.inl (by simp)) _).setCell (p := ⟨g0, 2, none⟩) (.inl (by simp)) _).setCell (p := ⟨g0, 3, none⟩) (.inl (by simp)) _).setCell (p := ⟨g0, 4, none⟩) (.inl (by simp)) _).setCell (p := ⟨g0, 5, none⟩) (.inl (by simp)) _).setCell (p := ⟨g1, 0, none⟩) (.inl (by simp)) _).setCell (p := ⟨g1, 1, none⟩) (.inl (by simp)) _)
    generalize ((((((((we.setCell ⟨g0, 0, none⟩ (.string ⟨#[]⟩)).setCell ⟨g0, 1, none⟩ (.int .i64 0)).setCell ⟨g0, 2, none⟩ (.int .i64 0)).setCell ⟨g0, 3, none⟩ (.slice none 0 0)).setCell ⟨g0, 4, none⟩ (.slice none 0 0)).setCell ⟨g0, 5, none⟩ (.int .i64 0)).setCell ⟨g1, 0, none⟩ (.int .i64 2)).setCell ⟨g1, 1, none⟩ (.int .i64 0)) = wz at *
    have P0 := Lib.hid P9.1
    have P1 := Lib.hid P9.2
    have t0 := cell_of P0.out 0
    have t1 := cell_of P0.out 1
    have t2 := cell_of P0.out 2
    have t3 := cell_of P0.out 3
    have t4 := cell_of P0.out 4
    have t5 := cell_of P0.out 5
    simp only [List.getElem?_toArray, List.getElem?_cons_succ, List.getElem?_cons_zero] at t0 t1 t2 t3 t4 t5
    have u0 := cell_of P1.out 0
    have u1 := cell_of P1.out 1
    simp only [List.getElem?_toArray, List.getElem?_cons_succ, List.getElem?_cons_zero] at u0 u1
    refine bodyPost_ret (v := .tuple #[.agg #[.string ⟨#[]⟩, .int .i64 0, .int .i64 0, .slice none 0 0, .slice none 0 0, .int .i64 0], .agg #[.int .i64 2, .int .i64 0]]) (by simp [results, Tryz.results10, go_sem, t0, t1, t2, t3, t4, t5, u0, u1]) rfl ?_
    refine ⟨⟨⟨#[]⟩, 0, 0, none, 0, 0, none, 0, 0, 0⟩, rfl, ⟨rfl, rfl, rfl, rfl, rfl, Bs.nil _ _, RdK.nil _ _, rfl⟩, OwnK.none_ _, by simp, C.out.trans' C9 (fun i hi => .inr (by have := Z.out; simp at hi; omega))⟩
  rw [k3]
  obtain rfl : v = (inOf xs, (0, 0)) := by rw [← HV.out]; exact readI_good HE.out ⟨by rw [HRE.out]; exact k1, by rw [HQE.out]; exact k2, k3⟩
  clear k1 k2 k3
  go_upto_region 11 with fail
  clear HV
  have z0 := cell_of B14.out 0
  have z1 := cell_of B14.out 1
  have z2 := cell_of B14.out 2
  have z3 := cell_of B14.out 3
  have z4 := cell_of B14.out 4
  have z5 := cell_of B14.out 5
  simp only [List.getElem?_toArray, List.getElem?_cons_succ, List.getElem?_cons_zero] at z0 z1 z2 z3 z4 z5
  have t0 := cell_of B0.out 0
  have t1 := cell_of B0.out 1
  have t2 := cell_of B0.out 2
  have t3 := cell_of B0.out 3
  have t4 := cell_of B0.out 4
  have t5 := cell_of B0.out 5
  have ft0 := free_of B0.out 0
  have ft1 := free_of B0.out 1
  have ft2 := free_of B0.out 2
  have ft3 := free_of B0.out 3
  have ft4 := free_of B0.out 4
  have ft5 := free_of B0.out 5
  simp only [List.getElem?_toArray, List.getElem?_cons_succ, List.getElem?_cons_zero] at t0 t1 t2 t3 t4 t5
  have u0 := cell_of B1.out 0
  have u1 := cell_of B1.out 1
  have fu0 := free_of B1.out 0
  have fu1 := free_of B1.out 1
  simp only [List.getElem?_toArray, List.getElem?_cons_succ, List.getElem?_cons_zero] at u0 u1
  go_wp2
  clear t0 t1 t2 t3 t4 t5 ft0 ft1 ft2 ft3 ft4 ft5
  clear u0 u1 fu0 fu1
  have P9 := put62 (.string (strOf (jT xs).1)) (.int .i64 RE.1.1) (.int .i64 RE.1.2.1) (.slice A10 RE.1.2.2.length c10) (.slice A13 QE.1.length c13) (.int .i64 (jN xs).1) (.int .i64 0) (.int .i64 0) B0.out B1.out n01
  have C9 : Chg [g0, g1] we ((((((((we.setCell ⟨g0, 0, none⟩ (.string (strOf (jT xs).1))).setCell ⟨g0, 1, none⟩ (.int .i64 RE.1.1)).setCell ⟨g0, 2, none⟩ (.int .i64 RE.1.2.1)).setCell ⟨g0, 3, none⟩ (.slice A10 RE.1.2.2.length c10)).setCell ⟨g0, 4, none⟩ (.slice A13 QE.1.length c13)).setCell ⟨g0, 5, none⟩ (.int .i64 (jN xs).1)).setCell ⟨g1, 0, none⟩ (.int .i64 0)).setCell ⟨g1, 1, none⟩ (.int .i64 0)) := (((((((((Chg.refl [g0, g1] we).setCell (p := ⟨g0, 0, none⟩) (.inl (by simp)) _).setCell (p := ⟨g0, 1, none⟩) (.inl (by simp)) _).setCell (p := ⟨g0, 2, none⟩) (.inl (by simp)) _).setCell (p := ⟨g0, 3, none⟩) (.inl (by simp)) _).setCell (p := ⟨g0, 4, none⟩) (.inl (by simp)) _).setCell (p := ⟨g0, 5, none⟩) (.inl (by simp)) _).setCell (p := ⟨g1, 0, none⟩) (.inl (by simp)) _).setCell (p := ⟨g1, 1, none⟩) (.inl (by simp)) _)
  generalize ((((((((we.setCell ⟨g0, 0, none⟩ (.string (strOf (jT xs).1))).setCell ⟨g0, 1, none⟩ (.int .i64 RE.1.1)).setCell ⟨g0, 2, none⟩ (.int .i64 RE.1.2.1)).setCell ⟨g0, 3, none⟩ (.slice A10 RE.1.2.2.length c10)).setCell ⟨g0, 4, none⟩ (.slice A13 QE.1.length c13)).setCell ⟨g0, 5, none⟩ (.int .i64 (jN xs).1)).setCell ⟨g1, 0, none⟩ (.int .i64 0)).setCell ⟨g1, 1, none⟩ (.int .i64 0)) = wz at *
  have P0 := Lib.hid P9.1
  have P1 := Lib.hid P9.2
  have t0 := cell_of P0.out 0
  have t1 := cell_of P0.out 1
  have t2 := cell_of P0.out 2
  have t3 := cell_of P0.out 3
  have t4 := cell_of P0.out 4
  have t5 := cell_of P0.out 5
  simp only [List.getElem?_toArray, List.getElem?_cons_succ, List.getElem?_cons_zero] at t0 t1 t2 t3 t4 t5
  have u0 := cell_of P1.out 0
  have u1 := cell_of P1.out 1
  simp only [List.getElem?_toArray, List.getElem?_cons_succ, List.getElem?_cons_zero] at u0 u1
  refine bodyPost_ret (v := .tuple #[.agg #[.string (strOf (jT xs).1), .int .i64 RE.1.1, .int .i64 RE.1.2.1, .slice A10 RE.1.2.2.length c10, .slice A13 QE.1.length c13, .int .i64 (jN xs).1], .agg #[.int .i64 0, .int .i64 0]]) (by simp [results, Tryz.results10, go_sem, t0, t1, t2, t3, t4, t5, u0, u1]) rfl ?_
  refine ⟨⟨strOf (jT xs).1, RE.1.1, RE.1.2.1, A10, RE.1.2.2.length, c10, A13, QE.1.length, c13, (jN xs).1⟩, rfl, ER.out.chgS C9 (fun a ha => by have := N10.out a ha; simp; omega) (fun a ha => by have := N13.out a ha; simp; omega), ?_, (fun a ha => by have := N13.out a ha; have := Z.out; omega), C.out.trans' C9 (fun i hi => .inr (by have := Z.out; simp at hi; omega))⟩
  rw [EO.out]
  exact P13.out.chg C9 (fun a ha => by have := N13.out a ha; simp; omega)
end
section
open Go.RowKit Go.Lib
set_option linter.unusedSimpArgs false
set_option linter.unusedVariables false

/-- An event as it lies in memory: its dot, path, effect (kind, mode, bytes), past. -/
structure EvT where
  n : Int
  s : Int
  p : ByteArray
  k : Int
  m : Int
  A : Option Addr
  l : Nat
  c : Nat
  B : Option Addr
  bl : Nat
  bc : Nat
/-- What an event is. -/
structure EvP where
  n : Int
  s : Int
  p : List UInt8
  k : Int
  m : Int
  b : List UInt8
  q : List (Int × Int × Int)
/-- It reads so. -/
structure EvR (w : World) (x : EvT) (e : EvP) : Prop where
  n : x.n = e.n
  s : x.s = e.s
  p : x.p = strOf e.p
  k : x.k = e.k
  m : x.m = e.m
  l : x.l = e.b.length
  bl : x.bl = e.q.length
  A : Bs w x.A x.l e.b
  B : RdK spanTy w x.B x.bl e.q
/-- A slice that may be handed in. -/
def FitS (w : World) (A : Option Addr) (n c : Nat) : Prop := n ≤ c ∧ c ≤ maxLen ∧ ∀ a, A = some a → a.block < w.heap.size
structure EvF (w : World) (x : EvT) : Prop where
  A : FitS w x.A x.l x.c
  B : FitS w x.B x.bl x.bc
theorem FitS.chg {S : List Nat} {w w' : World} {A : Option Addr} {n c : Nat} (h : FitS w A n c) (hc : Chg S w w') : FitS w' A n c := ⟨h.1, h.2.1, fun a ha => Nat.lt_of_lt_of_le (h.2.2 a ha) hc.size⟩
theorem EvF.chg {S : List Nat} {w w' : World} {x : EvT} (h : EvF w x) (hc : Chg S w w') : EvF w' x := ⟨h.A.chg hc, h.B.chg hc⟩
theorem EvR.chg {w w' : World} {x : EvT} {e : EvP} (h : EvR w x e) (hc : Chg [] w w') : EvR w' x e := ⟨h.n, h.s, h.p, h.k, h.m, h.l, h.bl, h.A.chg hc (by simp), h.B.chg hc (by simp)⟩
end
section
open Go.RowKit Go.Lib
set_option linter.unusedSimpArgs false
set_option linter.unusedVariables false


/-- May an event be? Part by part. -/
def evOk (e : EvP) : Nat → Prop
  | 0 => chkD e.n e.s = 0
  | 1 => checkL 6 12 e.p = true
  | 2 => chkE e.k e.m e.b.length = 0
  | 3 => chkS e.q = 0
  | _ => (if chkS e.q = 0 then lastL e.n e.q else 0) < e.s
instance (e : EvP) (i : Nat) : Decidable (evOk e i) := by unfold evOk; split <;> exact inferInstance
def EvOk (e : EvP) : Prop := evOk e 0 ∧ evOk e 1 ∧ evOk e 2 ∧ evOk e 3 ∧ evOk e 4
instance (e : EvP) : Decidable (EvOk e) := by unfold EvOk; exact inferInstance
end
end Go.Proofs.YtcnbgdplkobenaaGreatDoor
