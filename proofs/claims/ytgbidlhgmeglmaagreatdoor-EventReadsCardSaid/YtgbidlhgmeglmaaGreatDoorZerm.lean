/- event.Read. event.Bytes, Size. What is written is read as it was: no memory here. What is read is written as it was read: no memory here. An effect's bytes read as it; what reads as an effect is its bytes; where faults are: no memory here. An event's bytes are read as it; what is read has just these bytes. Plain. The document's writer (tributaryref01): form, put, Num, Raw, Text, Out. The document's writer, call by call. The document's writer: Raw, Text, Out. -/
import Derived.Test.YtgbidlhgmeglmaaGreatDoorZerd
import Derived.Test.YtgbidlhgmeglmaaGreatDoorZere
import Derived.Test.YtgbidlhgmeglmaaGreatDoorZerh
import Derived.Test.YtgbidlhgmeglmaaGreatDoorZerl
import Derived.Deep.Cut
import Derived.Deep.RegionHeld3
import Derived.Test.YtgbidlhgmeglmaaGreatDoorZerc
import Derived.Test.YtgbidlhgmeglmaaGreatDoorZerb
namespace Go.Proofs.YtgbidlhgmeglmaaGreatDoor
section
open Go.RowKit Go.Lib
set_option linter.unusedSimpArgs false
set_option linter.unusedVariables false


/-- What is read, piece by piece. -/
def vN1 (xs : List UInt8) : Int × Nat × Int × Int := rNum xs 0 0 0 1 200
def vN2 (xs : List UInt8) : Int × Nat × Int × Int := rNum xs (vN1 xs).2.1 (vN1 xs).2.2.1 (vN1 xs).2.2.2 1 2147483647
def vT (xs : List UInt8) : List UInt8 × Nat × Int × Int := rRaw xs (vN2 xs).2.1 (vN2 xs).2.2.1 (vN2 xs).2.2.2 77
def vX (xs : List UInt8) : List UInt8 × Nat × Int × Int := rRaw xs (vT xs).2.1 (vT xs).2.2.1 (vT xs).2.2.2 1100
def vP (xs : List UInt8) : List UInt8 × Nat × Int × Int := rRaw xs (vX xs).2.1 (vX xs).2.2.1 (vX xs).2.2.2 40000
def vF (xs : List UInt8) : Int × Int := endR xs (vP xs).2.1 (vP xs).2.2.1 (vP xs).2.2.2
def zeroEv : EvP := ⟨0, 0, [], 0, 0, [], []⟩
def evOf (xs : List UInt8) : EvP := ⟨(vN1 xs).1, (vN2 xs).1, (vT xs).1, (readE (vX xs).1).1.1, (readE (vX xs).1).1.2.1, (readE (vX xs).1).1.2.2, (readS (vP xs).1).1⟩
/-- What an event's bytes read as: the event; the fault. -/
def readEv (xs : List UInt8) : EvP × Int × Int :=
  if (vF xs).1 ≠ 0 then (zeroEv, vF xs) else if (readE (vX xs).1).2.1 = 0 ∧ (readS (vP xs).1).2.1 = 0 ∧ chkEv (evOf xs) = 0 then (evOf xs, (0, 0)) else (zeroEv, (2, 0))
theorem readE_len (ys : List UInt8) : (readE ys).1.2.2.length ≤ ys.length := by
  unfold readE
  split
  · simp
  · split
    · exact (rRaw_le (rNum_le (rNum_le (Nat.zero_le _)))).1
    · simp
theorem readEv_bad {xs : List UInt8} (h : (vF xs).1 = 0) (h2 : ¬ ((readE (vX xs).1).2.1 = 0 ∧ (readS (vP xs).1).2.1 = 0 ∧ chkEv (evOf xs) = 0)) : readEv xs = (zeroEv, (2, 0)) := by
  unfold readEv
  rw [if_neg (fun q => q h), if_neg h2]
theorem readEv_good {xs : List UInt8} (h : (vF xs).1 = 0) (h2 : (readE (vX xs).1).2.1 = 0 ∧ (readS (vP xs).1).2.1 = 0 ∧ chkEv (evOf xs) = 0) : readEv xs = (evOf xs, (0, 0)) := by
  unfold readEv
  rw [if_neg (fun q => q h), if_pos h2]
def ReadEvPost (w : World) (q : EvP × Int × Int) (r : Ending) (w' : World) : Prop :=
  ∃ X : EvT, r = .returned (.tuple #[.agg #[.int .i64 X.n, .int .i64 X.s, .string X.p, .int .i64 X.k, .int .i64 X.m, .slice X.A X.l X.c, .slice X.B X.bl X.bc], .agg #[.int .i64 q.2.1, .int .i64 q.2.2]]) ∧ EvR w' X q.1 ∧ OwnB w' X.A X.c q.1.b ∧ OwnK spanTy w' X.B X.bc q.1.q ∧ (∀ a, X.A = some a → w.heap.size ≤ a.block) ∧ (∀ a, X.B = some a → w.heap.size ≤ a.block) ∧ (∀ a b, X.A = some a → X.B = some b → a.block ≠ b.block) ∧ Chg [] w w'
theorem Rs.ple {w w' : World} {b : Nat} {xs : List UInt8} {p : Nat} {fe fa : Int} (h : Rs w w' b xs p fe fa) : p ≤ xs.length := by
  obtain ⟨g, _, _, _, _, h5, _⟩ := h
  exact h5
theorem Rs.lt {w w' : World} {b : Nat} {xs : List UInt8} {p : Nat} {fe fa : Int} (h : Rs w w' b xs p fe fa) : b < w'.heap.size ∧ w.heap.size ≤ b := by
  obtain ⟨g, h1, h2, _⟩ := h
  exact ⟨lt_of_heap h1.choose_spec.choose_spec.1, h2⟩

set_option maxHeartbeats 4000000 in
theorem put9 {w : World} {s0 s1 : Nat} {a0 a1 a2 a3 a4 a5 a6 b0 b1 : Value} {T T' : TypeId} (v0 v1 v2 v3 v4 v5 v6 u0 u1 : Value) (q0 : w.heap[s0]? = some (.cells #[a0, a1, a2, a3, a4, a5, a6] T (0, 0))) (q1 : w.heap[s1]? = some (.cells #[b0, b1] T' (0, 0))) (h : s0 ≠ s1) :
    (((((((((w.setCell ⟨s0, 0, none⟩ v0).setCell ⟨s0, 1, none⟩ v1).setCell ⟨s0, 2, none⟩ v2).setCell ⟨s0, 3, none⟩ v3).setCell ⟨s0, 4, none⟩ v4).setCell ⟨s0, 5, none⟩ v5).setCell ⟨s0, 6, none⟩ v6).setCell ⟨s1, 0, none⟩ u0).setCell ⟨s1, 1, none⟩ u1).heap[s0]? = some (.cells #[v0, v1, v2, v3, v4, v5, v6] T (0, 0)) ∧
    (((((((((w.setCell ⟨s0, 0, none⟩ v0).setCell ⟨s0, 1, none⟩ v1).setCell ⟨s0, 2, none⟩ v2).setCell ⟨s0, 3, none⟩ v3).setCell ⟨s0, 4, none⟩ v4).setCell ⟨s0, 5, none⟩ v5).setCell ⟨s0, 6, none⟩ v6).setCell ⟨s1, 0, none⟩ u0).setCell ⟨s1, 1, none⟩ u1).heap[s1]? = some (.cells #[u0, u1] T' (0, 0)) := by
  have p0 := heap_setCell_same _ s0 0 _ _ v0 q0
  have p1 := heap_setCell_same _ s0 1 _ _ v1 p0
  have p2 := heap_setCell_same _ s0 2 _ _ v2 p1
  have p3 := heap_setCell_same _ s0 3 _ _ v3 p2
  have p4 := heap_setCell_same _ s0 4 _ _ v4 p3
  have p5 := heap_setCell_same _ s0 5 _ _ v5 p4
  have p6 := heap_setCell_same _ s0 6 _ _ v6 p5
  have h' : s1 ≠ s0 := fun e => h e.symm
  have r : (((((((w.setCell ⟨s0, 0, none⟩ v0).setCell ⟨s0, 1, none⟩ v1).setCell ⟨s0, 2, none⟩ v2).setCell ⟨s0, 3, none⟩ v3).setCell ⟨s0, 4, none⟩ v4).setCell ⟨s0, 5, none⟩ v5).setCell ⟨s0, 6, none⟩ v6).heap[s1]? = some (.cells #[b0, b1] T' (0, 0)) := by
    rw [Below.heap_setCell _ _ _ _ (by simpa using h'), Below.heap_setCell _ _ _ _ (by simpa using h'), Below.heap_setCell _ _ _ _ (by simpa using h'), Below.heap_setCell _ _ _ _ (by simpa using h'), Below.heap_setCell _ _ _ _ (by simpa using h'), Below.heap_setCell _ _ _ _ (by simpa using h'), Below.heap_setCell _ _ _ _ (by simpa using h')]
    exact q1
  have r0 := heap_setCell_same _ s1 0 _ _ u0 r
  have r1 := heap_setCell_same _ s1 1 _ _ u1 r0
  refine ⟨?_, r1⟩
  rw [Below.heap_setCell _ _ _ _ (by simpa using h), Below.heap_setCell _ _ _ _ (by simpa using h)]
  exact p6
set_option maxHeartbeats 4000000 in
theorem setA7 {w : World} {s0 : Nat} {a0 a1 a2 a3 a4 a5 a6 : Value} {T : TypeId} (v0 v1 v2 v3 v4 v5 v6 : Value) (q0 : w.heap[s0]? = some (.cells #[a0, a1, a2, a3, a4, a5, a6] T (0, 0))) :
    (((((((w.setCell ⟨s0, 0, none⟩ v0).setCell ⟨s0, 1, none⟩ v1).setCell ⟨s0, 2, none⟩ v2).setCell ⟨s0, 3, none⟩ v3).setCell ⟨s0, 4, none⟩ v4).setCell ⟨s0, 5, none⟩ v5).setCell ⟨s0, 6, none⟩ v6).heap[s0]? = some (.cells #[v0, v1, v2, v3, v4, v5, v6] T (0, 0)) ∧ (∀ (s1 : Nat) (o : Obj), s0 ≠ s1 → w.heap[s1]? = some o → (((((((w.setCell ⟨s0, 0, none⟩ v0).setCell ⟨s0, 1, none⟩ v1).setCell ⟨s0, 2, none⟩ v2).setCell ⟨s0, 3, none⟩ v3).setCell ⟨s0, 4, none⟩ v4).setCell ⟨s0, 5, none⟩ v5).setCell ⟨s0, 6, none⟩ v6).heap[s1]? = some o) ∧ Chg [s0] w (((((((w.setCell ⟨s0, 0, none⟩ v0).setCell ⟨s0, 1, none⟩ v1).setCell ⟨s0, 2, none⟩ v2).setCell ⟨s0, 3, none⟩ v3).setCell ⟨s0, 4, none⟩ v4).setCell ⟨s0, 5, none⟩ v5).setCell ⟨s0, 6, none⟩ v6) := by
  have p0 := heap_setCell_same _ s0 0 _ _ v0 q0
  have p1 := heap_setCell_same _ s0 1 _ _ v1 p0
  have p2 := heap_setCell_same _ s0 2 _ _ v2 p1
  have p3 := heap_setCell_same _ s0 3 _ _ v3 p2
  have p4 := heap_setCell_same _ s0 4 _ _ v4 p3
  have p5 := heap_setCell_same _ s0 5 _ _ v5 p4
  have p6 := heap_setCell_same _ s0 6 _ _ v6 p5
  refine ⟨p6, fun s1 o h q1 => ?_, ?_⟩
  · rw [Below.heap_setCell _ _ _ _ (by simp; exact fun e => h e.symm), Below.heap_setCell _ _ _ _ (by simp; exact fun e => h e.symm), Below.heap_setCell _ _ _ _ (by simp; exact fun e => h e.symm), Below.heap_setCell _ _ _ _ (by simp; exact fun e => h e.symm), Below.heap_setCell _ _ _ _ (by simp; exact fun e => h e.symm), Below.heap_setCell _ _ _ _ (by simp; exact fun e => h e.symm), Below.heap_setCell _ _ _ _ (by simp; exact fun e => h e.symm)]
    exact q1
  · exact ((((((((Chg.refl [s0] w).put' 0 v0).put' 1 v1).put' 2 v2).put' 3 v3).put' 4 v4).put' 5 v5).put' 6 v6)
set_option maxHeartbeats 4000000 in
theorem setA2 {w : World} {s0 : Nat} {a0 a1 : Value} {T : TypeId} (v0 v1 : Value) (q0 : w.heap[s0]? = some (.cells #[a0, a1] T (0, 0))) :
    ((w.setCell ⟨s0, 0, none⟩ v0).setCell ⟨s0, 1, none⟩ v1).heap[s0]? = some (.cells #[v0, v1] T (0, 0)) ∧ (∀ (s1 : Nat) (o : Obj), s0 ≠ s1 → w.heap[s1]? = some o → ((w.setCell ⟨s0, 0, none⟩ v0).setCell ⟨s0, 1, none⟩ v1).heap[s1]? = some o) ∧ Chg [s0] w ((w.setCell ⟨s0, 0, none⟩ v0).setCell ⟨s0, 1, none⟩ v1) := by
  have p0 := heap_setCell_same _ s0 0 _ _ v0 q0
  have p1 := heap_setCell_same _ s0 1 _ _ v1 p0
  refine ⟨p1, fun s1 o h q1 => ?_, ?_⟩
  · rw [Below.heap_setCell _ _ _ _ (by simp; exact fun e => h e.symm), Below.heap_setCell _ _ _ _ (by simp; exact fun e => h e.symm)]
    exact q1
  · exact (((Chg.refl [s0] w).put' 0 v0).put' 1 v1)

set_option maxRecDepth 100000 in
set_option maxHeartbeats 16000000 in
theorem evread_any (w : World) (A : Option Addr) (n c : Nat) (xs : List UInt8) (h : Bs w A n xs) (hn : n ≤ 100000) :
    Calls Tryz.prog 25 #[.slice A n c] w (ReadEvPost w (readEv xs)) := by
  have hl := h.len
  subst hl
  obtain ⟨w0, hw0, c0, b0, b1⟩ := news2 w (.cells #[.int .i64 0, .int .i64 0, .string ⟨#[]⟩, .int .i64 0, .int .i64 0, .slice none 0 0, .slice none 0 0] 29) (.cells #[.int .i64 0, .int .i64 0] 44)
  have W0 := Lib.hid hw0
  have H := Lib.hid (h.chg c0 (by simp))
  have C0 := Lib.hid c0
  have HN := Lib.hid hn
  obtain ⟨g0, hg0⟩ : ∃ g, w.heap.size = g := ⟨_, rfl⟩
  obtain ⟨g1, hg1⟩ : ∃ g, w.heap.size + 1 = g := ⟨_, rfl⟩
  have SZ := Lib.hid hg0
  have S1 := Lib.hid hg1
  rw [hg0] at b0
  rw [hg1] at b1
  have B0 := Lib.hid b0
  have B1 := Lib.hid b1
  have L0 := Lib.hid (And.intro (lt_of_heap b0) (lt_of_heap b1))
  have NEg0 : Hid (g0 ≠ g1) := Lib.hid (by omega)
  have NEg1 : Hid (g1 ≠ g0) := Lib.hid (by omega)
  have LZg0 : Hid (g0 ≤ g0) := Lib.hid (Nat.le_refl _)
  have LZg1 : Hid (g0 ≤ g1) := Lib.hid (by omega)
  clear hw0 c0 b0 b1 h hn hg0 hg1
  generalize hRR : readEv xs = RR
  have HRR := Lib.hid hRR
  clear hRR
  go_enter Tryz.func25, Tryz.ntmps25
  go_wp2_with fail
  rw [← W0.out, S1.out, SZ.out]
  refine (rs_open w0 w0 A xs.length c xs (Chg.refl _ _) H.out (by have := HN.out; omega)).mono ?_
  rintro e w1 ⟨b, rfl, h1⟩
  have K := Lib.hid h1
  clear h1
  go_wp2_with fail
  have r1 := rs_num w0 w1 b xs 0 0 0 1 200 K.out
  change Calls _ _ _ _ (fun r w' => r = .returned (.int .i64 (vN1 xs).1) ∧ Rs w0 w' b xs (vN1 xs).2.1 (vN1 xs).2.2.1 (vN1 xs).2.2.2 ∧ _) at r1
  refine r1.mono ?_
  rintro e w2 ⟨rfl, h2, -⟩
  replace K := Lib.hid h2
  clear h2 r1
  go_wp2_with fail
  have r1 := rs_num w0 w2 b xs _ _ _ 1 2147483647 K.out
  change Calls _ _ _ _ (fun r w' => r = .returned (.int .i64 (vN2 xs).1) ∧ Rs w0 w' b xs (vN2 xs).2.1 (vN2 xs).2.2.1 (vN2 xs).2.2.2 ∧ _) at r1
  refine r1.mono ?_
  rintro e w3 ⟨rfl, h3, -⟩
  replace K := Lib.hid h3
  clear h3 r1
  obtain ⟨w4, hw, hc, b5⟩ := news1 w3 (.cells #[.int .i64 (vN1 xs).1, .int .i64 (vN2 xs).1] 23)
  have W4 := Lib.hid hw
  have B5 := Lib.hid b5
  have NB5 : Hid (w3.heap.size ≠ b ∧ w0.heap.size ≤ w3.heap.size) := Lib.hid ⟨by have := K.out.lt; omega, K.out.chg.size⟩
  replace K := Lib.hid (K.out.past hc)
  clear hw hc b5
  go_wp2_with fail
  rw [← W4.out]
  generalize w3.heap.size = s5 at *
  have LT : Hid ((vT xs).1.length ≤ xs.length) := Lib.hid (rRaw_le K.out.ple).1
  have r1 := rs_text w0 w4 b xs _ _ _ 77 K.out
  change Calls _ _ _ _ (fun r w' => r = .returned (.string (strOf (vT xs).1)) ∧ Rs w0 w' b xs (vT xs).2.1 (vT xs).2.2.1 (vT xs).2.2.2 ∧ _) at r1
  refine r1.mono ?_
  rintro e w5 ⟨rfl, h5, hc⟩
  replace K := Lib.hid h5
  replace B5 := Lib.hid (hc.at_ B5.out (by simp; exact NB5.out.1))
  clear h5 r1 hc W4
  go_wp2_with fail
  have LX : Hid ((vX xs).1.length ≤ xs.length) := Lib.hid (rRaw_le K.out.ple).1
  have r1 := rs_raw w0 w5 b xs _ _ _ 1100 K.out
  change Calls _ _ _ _ (fun r w' => ∃ A c, r = .returned (.slice A (vX xs).1.length c) ∧ OwnB w' A c (vX xs).1 ∧ (∀ a, A = some a → w5.heap.size ≤ a.block) ∧ Rs w0 w' b xs (vX xs).2.1 (vX xs).2.2.1 (vX xs).2.2.2 ∧ _) at r1
  refine r1.mono ?_
  rintro e w6 ⟨A6, c6, rfl, o6, n6, h6, hc⟩
  have N6 : Hid (∀ a, A6 = some a → a.block ≠ b) := Lib.hid (fun a ha => by have := n6 a ha; have := K.out.lt; omega)
  have O6 := Lib.hid o6
  replace B5 := Lib.hid (hc.at_ B5.out (by simp; exact NB5.out.1))
  replace K := Lib.hid h6
  clear h6 r1 hc o6 n6
  go_wp2_with fail
  have LP : Hid ((vP xs).1.length ≤ xs.length) := Lib.hid (rRaw_le K.out.ple).1
  have r1 := rs_raw w0 w6 b xs _ _ _ 40000 K.out
  change Calls _ _ _ _ (fun r w' => ∃ A c, r = .returned (.slice A (vP xs).1.length c) ∧ OwnB w' A c (vP xs).1 ∧ (∀ a, A = some a → w6.heap.size ≤ a.block) ∧ Rs w0 w' b xs (vP xs).2.1 (vP xs).2.2.1 (vP xs).2.2.2 ∧ _) at r1
  refine r1.mono ?_
  rintro e w7 ⟨A7, c7, rfl, o7, n7, h7, hc⟩
  have O7 := Lib.hid o7
  replace O6 := Lib.hid (O6.out.chg hc (fun a ha => by simp; exact N6.out a ha))
  replace B5 := Lib.hid (hc.at_ B5.out (by simp; exact NB5.out.1))
  replace K := Lib.hid h7
  clear h7 r1 hc o7 n7 N6
  go_wp2_with fail
  have r1 := rs_end w0 w7 b xs _ _ _ K.out
  change Calls _ _ _ _ (fun r w' => r = .returned (.agg #[.int .i64 (vF xs).1, .int .i64 (vF xs).2]) ∧ _) at r1
  refine r1.mono ?_
  rintro e w8 ⟨rfl, hc⟩
  have C := Lib.hid (K.out.chg.trans hc)
  replace O6 := Lib.hid (O6.out.chg hc (by simp))
  replace O7 := Lib.hid (O7.out.chg hc (by simp))
  replace B5 := Lib.hid (hc.at_ B5.out (by simp))
  have LB5 := Lib.hid (lt_of_heap B5.out)
  have C8 := Lib.hid C.out.size
  clear hc r1 K
  obtain ⟨w9, hw, hc, b9⟩ := news1 w8 (.cells #[.int .i64 (vF xs).1, .int .i64 (vF xs).2] 44)
  have W9 := Lib.hid hw
  have B9 := Lib.hid b9
  have L89 : Hid (w8.heap.size ≤ w9.heap.size) := Lib.hid hc.size
  replace C := Lib.hid (C.out.trans hc)
  replace O6 := Lib.hid (O6.out.chg hc (by simp))
  replace O7 := Lib.hid (O7.out.chg hc (by simp))
  replace B5 := Lib.hid (hc.at_ B5.out (by simp))
  have LS9 : Hid (w0.heap.size ≤ w8.heap.size) := Lib.hid C8.out
  have y0 := cell_of b9 0
  have y1 := cell_of b9 1
  simp only [List.getElem?_toArray, List.getElem?_cons_succ, List.getElem?_cons_zero] at y0 y1
  clear hw hc b9
  go_upto_region 5 with fail
  rw [← W9.out]
  generalize w8.heap.size = s9 at *
  clear W9
  by_cases he : (vF xs).1 = 0
  rotate_left
  · have he' : ((vF xs).1 != 0) = true := bne_iff_ne.2 he
    have e2 : RR = (zeroEv, vF xs) := by rw [← HRR.out]; unfold readEv; rw [if_pos he]
    have E2 := Lib.hid e2
    clear e2 he HRR

    go_upto_region 6 with fail
    replace B0 := Lib.hid (C.out.at_ B0.out (by simp))
    replace B1 := Lib.hid (C.out.at_ B1.out (by simp))
    have NE9 : Hid (g0 ≠ s9 ∧ g1 ≠ s9) := Lib.hid (by have := L0.out; have := LS9.out; omega)
    refine wp_region_held_drew (S := fun w' => w'.cell? ⟨s9, 0, none⟩ = some (.int .i64 (vF xs).1) ∧ w'.cell? ⟨s9, 1, none⟩ = some (.int .i64 (vF xs).2)) (by kernel_rfl) ⟨y0, y1⟩ (fun hHeld => ?_)
    have CD := Lib.hid (Chg.refl [] w9).drew
    replace C := Lib.hid (C.out.trans CD.out)
    replace B0 := Lib.hid (CD.out.at_ B0.out (by simp))
    replace B1 := Lib.hid (CD.out.at_ B1.out (by simp))
    replace B9 := Lib.hid (CD.out.at_ B9.out (by simp))
    clear CD hHeld y0 y1
    generalize w9.drew = wc at *
    refine sy 0 33 rfl rfl ?_ (hS := ⟨cell_of B9.out 0, cell_of B9.out 1⟩)
    try simp only [Act.put, sA, s0, s1]
    refine sy 1 34 rfl rfl ?_ (hS := ⟨cell_of B9.out 0, cell_of B9.out 1⟩) (hy := by (intro w hSw; (try dsimp only at hSw); obtain ⟨q0, q1⟩ := hSw; go_simp; try with_reducible rfl))
    try simp only [Act.put, sA, s0, s1]
    refine wpAnyH_ready (rs := [2]) (by kernel_rfl) (by simp) ?_
    refine AllReadyH.cons rfl (fun K hK => ?_) AllReadyH.nil
    replace hK := Lib.hid hK
    have z0 := cell_of B0.out 0
    have fz0 := free_of B0.out 0
    have z1 := cell_of B0.out 1
    have fz1 := free_of B0.out 1
    have z2 := cell_of B0.out 2
    have fz2 := free_of B0.out 2
    have z3 := cell_of B0.out 3
    have fz3 := free_of B0.out 3
    have z4 := cell_of B0.out 4
    have fz4 := free_of B0.out 4
    have z5 := cell_of B0.out 5
    have fz5 := free_of B0.out 5
    have z6 := cell_of B0.out 6
    have fz6 := free_of B0.out 6
    simp only [List.getElem?_toArray, List.getElem?_cons_succ, List.getElem?_cons_zero] at z0 z1 z2 z3 z4 z5 z6
    go_simp
    clear z0 z1 z2 z3 z4 z5 z6 fz0 fz1 fz2 fz3 fz4 fz5 fz6
    obtain ⟨p0, p1, p2⟩ := setA7 (.int .i64 0) (.int .i64 0) (.string ⟨#[]⟩) (.int .i64 0) (.int .i64 0) (.slice none 0 0) (.slice none 0 0) B0.out
    generalize (((((((wc.setCell ⟨g0, 0, none⟩ (.int .i64 0)).setCell ⟨g0, 1, none⟩ (.int .i64 0)).setCell ⟨g0, 2, none⟩ (.string ⟨#[]⟩)).setCell ⟨g0, 3, none⟩ (.int .i64 0)).setCell ⟨g0, 4, none⟩ (.int .i64 0)).setCell ⟨g0, 5, none⟩ (.slice none 0 0)).setCell ⟨g0, 6, none⟩ (.slice none 0 0)) = wa at *
    have Q0 := Lib.hid p0
    have Q1 := Lib.hid (p1 g1 _ NEg0.out B1.out)
    have Q9 := Lib.hid (p1 s9 _ NE9.out.1 B9.out)
    have CA := Lib.hid p2
    clear p0 p1 p2
    refine hK.out _ _ ⟨cell_of Q9.out 0, cell_of Q9.out 1⟩ (fun hHeld => ?_)
    clear hK K
    try simp only [Act.put, sA, s0, s1]
    refine wpAnyH_ready (rs := [3]) (by kernel_rfl) (by simp) ?_
    refine AllReadyH.cons rfl (fun K hK => ?_) AllReadyH.nil
    replace hK := Lib.hid hK
    have y0 := cell_of Q1.out 0
    have fy0 := free_of Q1.out 0
    have y1 := cell_of Q1.out 1
    have fy1 := free_of Q1.out 1
    simp only [List.getElem?_toArray, List.getElem?_cons_succ, List.getElem?_cons_zero] at y0 y1
    go_simp
    clear y0 y1 fy0 fy1
    obtain ⟨p0, p1, p2⟩ := setA2 (.int .i64 (vF xs).1) (.int .i64 (vF xs).2) Q1.out
    generalize ((wa.setCell ⟨g1, 0, none⟩ (.int .i64 (vF xs).1)).setCell ⟨g1, 1, none⟩ (.int .i64 (vF xs).2)) = wz at *
    have P9 := And.intro (p1 g0 _ NEg1.out Q0.out) p0
    have R9 := Lib.hid (p1 s9 _ NE9.out.2 Q9.out)
    have C9 : Chg [g0, g1] wc wz := (CA.out.mono (fun i hi => .inl (by simp at hi; simp [hi]))).trans (p2.mono (fun i hi => .inl (by simp at hi; simp [hi])))
    clear p0 p1 p2
    refine hK.out _ _ ⟨cell_of R9.out 0, cell_of R9.out 1⟩ (fun hHeld => ?_)
    clear hK K
    try simp only [Act.put, sA, s0, s1]
    refine wpAnyH_done (by kernel_rfl) ?_ _
    clear hHeld
    have e2 := E2.out
    subst e2
    go_wp2
    have P0 := Lib.hid P9.1
    have P1 := Lib.hid P9.2
    have z0 := cell_of P0.out 0
    have z1 := cell_of P0.out 1
    have z2 := cell_of P0.out 2
    have z3 := cell_of P0.out 3
    have z4 := cell_of P0.out 4
    have z5 := cell_of P0.out 5
    have z6 := cell_of P0.out 6
    have y0 := cell_of P1.out 0
    have y1 := cell_of P1.out 1
    simp only [List.getElem?_toArray, List.getElem?_cons_succ, List.getElem?_cons_zero] at z0 z1 z2 z3 z4 z5 z6 y0 y1
    refine bodyPost_ret (v := .tuple #[.agg #[.int .i64 0, .int .i64 0, .string ⟨#[]⟩, .int .i64 0, .int .i64 0, .slice none 0 0, .slice none 0 0], .agg #[.int .i64 (vF xs).1, .int .i64 (vF xs).2]]) (by simp [results, Tryz.results25, go_sem, z0, z1, z2, z3, z4, z5, z6, y0, y1]) rfl ?_
    exact ⟨⟨0, 0, ⟨#[]⟩, 0, 0, none, 0, 0, none, 0, 0⟩, rfl, ⟨rfl, rfl, rfl, rfl, rfl, rfl, rfl, Bs.nil _ _, RdK.nil _ _⟩, OwnB.none_ _, OwnK.none_ _, by simp, by simp, by simp, (C0.out.trans C.out).trans' C9 (fun i hi => by simp at hi; have := SZ.out; have := S1.out; rcases hi with rfl | rfl; exact .inr (by omega); exact .inr (by omega))⟩

  have he' : ((vF xs).1 != 0) = false := by simpa using he
  have HE := Lib.hid he
  clear he
  have LZ9 : Hid (s9 ≤ w9.heap.size) := Lib.hid L89.out

  have D9 := Lib.hid (Chg.refl [] w9)
  clear B9 y1
  go_wp2_with fail
  clear y0
  refine (eread_any w9 A6 _ c6 (vX xs).1 O6.out.reads (by have := LX.out; have := HN.out; omega)).mono ?_
  rintro e w10 ⟨A10, c10, rfl, h10⟩
  have hc := h10.2.2
  have O10 := Lib.hid h10.1
  have N10 := Lib.hid h10.2.1
  have NX10 := Lib.hid h10.1.lt
  replace C := Lib.hid (C.out.trans hc)
  replace D9 := Lib.hid (D9.out.trans hc)
  replace B5 := Lib.hid (hc.at_ B5.out (by simp))
  replace O7 := Lib.hid (O7.out.chg hc (by simp))
  clear hc h10
  have REL : Hid ((readE (vX xs).1).1.2.2.length ≤ (vX xs).1.length) := Lib.hid (readE_len _)
  obtain ⟨RE, hRE⟩ : ∃ q, readE (vX xs).1 = q := ⟨_, rfl⟩
  have HRE := Lib.hid hRE
  rw [hRE] at O10 REL ⊢
  clear hRE
  obtain ⟨w12, hw, hc, b10, b11⟩ := news2 w10 (.cells #[.int .i64 RE.1.1, .int .i64 RE.1.2.1, .slice A10 RE.1.2.2.length c10] 26) (.cells #[.int .i64 RE.2.1, .int .i64 RE.2.2] 44)
  have W12 := Lib.hid hw
  have B10 := Lib.hid b10
  have B11 := Lib.hid b11
  clear hw b10 b11
  replace C := Lib.hid (C.out.trans hc)
  replace D9 := Lib.hid (D9.out.trans hc)
  replace B5 := Lib.hid (hc.at_ B5.out (by simp))
  replace O7 := Lib.hid (O7.out.chg hc (by simp))
  replace O10 := Lib.hid (O10.out.chg hc (by simp))
  have LW12 : Hid (w10.heap.size ≤ w12.heap.size) := Lib.hid hc.size
  clear hc
  have L129 := Lib.hid D9.out.size
  go_upto_region 8 with fail
  rw [← W12.out]
  generalize w10.heap.size + 1 = s11 at *
  generalize hs10 : w10.heap.size = s10 at *
  have HS10 := Lib.hid hs10
  clear hs10 W12
  go_wp2_with fail
  refine (paread_any w12 A7 _ c7 (vP xs).1 O7.out.reads (by have := LP.out; have := HN.out; omega) O7.out.cap.1 (by have := O7.out.cap.2; unfold maxLen at this; omega)).mono ?_
  rintro e w13 ⟨A13, c13, rfl, hO, hN, hc⟩
  have P13 := Lib.hid hO
  have N13 := Lib.hid hN
  have NN13 : Hid (∀ a, A13 = some a → w9.heap.size ≤ a.block) := Lib.hid (fun a ha => by have := N13.out a ha; have := L129.out; omega)
  replace C := Lib.hid (C.out.trans hc)
  replace D9 := Lib.hid (D9.out.trans hc)
  replace B5 := Lib.hid (hc.at_ B5.out (by simp))
  replace O7 := Lib.hid (O7.out.chg hc (by simp))
  replace O10 := Lib.hid (O10.out.chg hc (by simp))
  replace B10 := Lib.hid (hc.at_ B10.out (by simp))
  replace B11 := Lib.hid (hc.at_ B11.out (by simp))
  clear hO hN hc
  have QL : Hid ((readS (vP xs).1).1.length ≤ (vP xs).1.length) := Lib.hid (readS_bytes _)
  obtain ⟨QE, hQE⟩ : ∃ q, readS (vP xs).1 = q := ⟨_, rfl⟩
  have HQE := Lib.hid hQE
  rw [hQE] at P13 QL ⊢
  clear hQE
  obtain ⟨w14, hw, hc, b13⟩ := news1 w13 (.cells #[.int .i64 QE.2.1, .int .i64 QE.2.2] 44)
  have W14 := Lib.hid hw
  have B13 := Lib.hid b13
  clear hw b13
  replace C := Lib.hid (C.out.trans hc)
  replace D9 := Lib.hid (D9.out.trans hc)
  replace B5 := Lib.hid (hc.at_ B5.out (by simp))
  replace O10 := Lib.hid (O10.out.chg hc (by simp))
  replace B10 := Lib.hid (hc.at_ B10.out (by simp))
  replace B11 := Lib.hid (hc.at_ B11.out (by simp))
  replace P13 := Lib.hid (P13.out.chg hc (by simp))
  clear hc O7
  go_upto_region 9 with fail
  rw [← W14.out]
  generalize w13.heap.size = s13 at *
  clear W14
  have x0 := cell_of B5.out 0
  have x1 := cell_of B5.out 1
  have z0 := cell_of B10.out 0
  have z1 := cell_of B10.out 1
  have z2 := cell_of B10.out 2
  simp only [List.getElem?_toArray, List.getElem?_cons_succ, List.getElem?_cons_zero] at x0 x1 z0 z1 z2
  have LQ14 := Lib.hid C.out.size
  obtain ⟨we, hw, hc, b14⟩ := news1 w14 (.cells #[.int .i64 (vN1 xs).1, .int .i64 (vN2 xs).1, .string (strOf (vT xs).1), .int .i64 RE.1.1, .int .i64 RE.1.2.1, .slice A10 RE.1.2.2.length c10, .slice A13 QE.1.length c13] 29)
  have W15 := Lib.hid hw
  have B14 := Lib.hid b14
  clear hw b14
  replace C := Lib.hid (C.out.trans hc)
  replace D9 := Lib.hid (D9.out.trans hc)
  replace B5 := Lib.hid (hc.at_ B5.out (by simp))
  replace O10 := Lib.hid (O10.out.chg hc (by simp))
  replace B10 := Lib.hid (hc.at_ B10.out (by simp))
  replace B11 := Lib.hid (hc.at_ B11.out (by simp))
  replace P13 := Lib.hid (P13.out.chg hc (by simp))
  replace B13 := Lib.hid (hc.at_ B13.out (by simp))
  clear hc
  go_upto_region 10 with fail
  rw [← W15.out]
  have LZ14 : Hid (w0.heap.size ≤ w14.heap.size) := Lib.hid LQ14.out
  generalize w14.heap.size = s14 at *
  clear W15 D9
  clear x0 x1 z0 z1 z2 
  have ER : Hid (EvR we ⟨(vN1 xs).1, (vN2 xs).1, strOf (vT xs).1, RE.1.1, RE.1.2.1, A10, RE.1.2.2.length, c10, A13, QE.1.length, c13⟩ (evOf xs)) := Lib.hid (by
    have eo : evOf xs = ⟨(vN1 xs).1, (vN2 xs).1, (vT xs).1, RE.1.1, RE.1.2.1, RE.1.2.2, QE.1⟩ := by unfold evOf; rw [HRE.out, HQE.out]
    rw [eo]
    exact ⟨rfl, rfl, rfl, rfl, rfl, rfl, rfl, O10.out.reads, P13.out.reads⟩)
  have ES : Hid (EvSm (evOf xs)) := Lib.hid (by
    have eo : evOf xs = ⟨(vN1 xs).1, (vN2 xs).1, (vT xs).1, RE.1.1, RE.1.2.1, RE.1.2.2, QE.1⟩ := by unfold evOf; rw [HRE.out, HQE.out]
    rw [eo]
    unfold EvSm
    have a1 := HN.out
    have a2 := LT.out
    have a3 := LX.out
    have a4 := LP.out
    have a5 := REL.out
    have a6 := QL.out
    simp only
    omega)
  by_cases k1 : RE.2.1 = 0
  rotate_left
  · skip
    have e2 : RR = (zeroEv, (2, 0)) := HRR.out.symm.trans (readEv_bad HE.out (fun q => k1 (by have r := q.1; rw [HRE.out] at r; exact r)))
    have k1b : (RE.2.1 != 0) = true := bne_iff_ne.2 k1
    have k1c : (RE.2.1 == 0) = false := beq_eq_false_iff_ne.2 k1
    have u0 := cell_of B11.out 0
    have t0 := cell_of B13.out 0
    simp only [List.getElem?_toArray, List.getElem?_cons_succ, List.getElem?_cons_zero] at u0 t0
    go_upto_region 11 with fail
    clear u0 t0 k1b k1c k1
    subst e2
    replace B0 := Lib.hid (C.out.at_ B0.out (by simp))
    replace B1 := Lib.hid (C.out.at_ B1.out (by simp))
    have z0 := cell_of B0.out 0
    have fz0 := free_of B0.out 0
    have z1 := cell_of B0.out 1
    have fz1 := free_of B0.out 1
    have z2 := cell_of B0.out 2
    have fz2 := free_of B0.out 2
    have z3 := cell_of B0.out 3
    have fz3 := free_of B0.out 3
    have z4 := cell_of B0.out 4
    have fz4 := free_of B0.out 4
    have z5 := cell_of B0.out 5
    have fz5 := free_of B0.out 5
    have z6 := cell_of B0.out 6
    have fz6 := free_of B0.out 6
    have y0 := cell_of B1.out 0
    have fy0 := free_of B1.out 0
    have y1 := cell_of B1.out 1
    have fy1 := free_of B1.out 1
    simp only [List.getElem?_toArray, List.getElem?_cons_succ, List.getElem?_cons_zero] at z0 z1 z2 z3 z4 z5 z6 y0 y1
    have d0 : ¬ g0 = g1 := NEg0.out
    have d1 : ¬ g1 = g0 := NEg1.out
    go_wp2
    clear z0 z1 z2 z3 z4 z5 z6 y0 y1 fz0 fz1 fz2 fz3 fz4 fz5 fz6 fy0 fy1
    clear d0 d1
    have P9 := put9 (.int .i64 0) (.int .i64 0) (.string ⟨#[]⟩) (.int .i64 0) (.int .i64 0) (.slice none 0 0) (.slice none 0 0) (.int .i64 2) (.int .i64 0) B0.out B1.out NEg0.out
    have C9 := ((((((((((Chg.refl [g0, g1] we).setCell (p := ⟨g0, 0, none⟩) (.inl (by simp)) (.int .i64 0)).setCell (p := ⟨g0, 1, none⟩) (.inl (by simp)) (.int .i64 0)).setCell (p := ⟨g0, 2, none⟩) (.inl (by simp)) (.string ⟨#[]⟩)).setCell (p := ⟨g0, 3, none⟩) (.inl (by simp)) (.int .i64 0)).setCell (p := ⟨g0, 4, none⟩) (.inl (by simp)) (.int .i64 0)).setCell (p := ⟨g0, 5, none⟩) (.inl (by simp)) (.slice none 0 0)).setCell (p := ⟨g0, 6, none⟩) (.inl (by simp)) (.slice none 0 0)).setCell (p := ⟨g1, 0, none⟩) (.inl (by simp)) (.int .i64 2)).setCell (p := ⟨g1, 1, none⟩) (.inl (by simp)) (.int .i64 0))
    generalize (((((((((we.setCell ⟨g0, 0, none⟩ (.int .i64 0)).setCell ⟨g0, 1, none⟩ (.int .i64 0)).setCell ⟨g0, 2, none⟩ (.string ⟨#[]⟩)).setCell ⟨g0, 3, none⟩ (.int .i64 0)).setCell ⟨g0, 4, none⟩ (.int .i64 0)).setCell ⟨g0, 5, none⟩ (.slice none 0 0)).setCell ⟨g0, 6, none⟩ (.slice none 0 0)).setCell ⟨g1, 0, none⟩ (.int .i64 2)).setCell ⟨g1, 1, none⟩ (.int .i64 0)) = wz at *
    have P0 := Lib.hid P9.1
    have P1 := Lib.hid P9.2
    have z0 := cell_of P0.out 0
    have z1 := cell_of P0.out 1
    have z2 := cell_of P0.out 2
    have z3 := cell_of P0.out 3
    have z4 := cell_of P0.out 4
    have z5 := cell_of P0.out 5
    have z6 := cell_of P0.out 6
    have y0 := cell_of P1.out 0
    have y1 := cell_of P1.out 1
    simp only [List.getElem?_toArray, List.getElem?_cons_succ, List.getElem?_cons_zero] at z0 z1 z2 z3 z4 z5 z6 y0 y1
    refine bodyPost_ret (v := .tuple #[.agg #[.int .i64 0, .int .i64 0, .string ⟨#[]⟩, .int .i64 0, .int .i64 0, .slice none 0 0, .slice none 0 0], .agg #[.int .i64 2, .int .i64 0]]) (by simp [results, Tryz.results25, go_sem, z0, z1, z2, z3, z4, z5, z6, y0, y1]) rfl ?_
    exact ⟨⟨0, 0, ⟨#[]⟩, 0, 0, none, 0, 0, none, 0, 0⟩, rfl, ⟨rfl, rfl, rfl, rfl, rfl, rfl, rfl, Bs.nil _ _, RdK.nil _ _⟩, OwnB.none_ _, OwnK.none_ _, by simp, by simp, by simp, (C0.out.trans C.out).trans' C9 (fun i hi => by simp at hi; have := SZ.out; have := S1.out; rcases hi with rfl | rfl; exact .inr (by omega); exact .inr (by omega))⟩
  by_cases k2 : QE.2.1 = 0
  rotate_left
  · skip
    have e2 : RR = (zeroEv, (2, 0)) := HRR.out.symm.trans (readEv_bad HE.out (fun q => k2 (by have r := q.2.1; rw [HQE.out] at r; exact r)))
    have k2b : (QE.2.1 != 0) = true := bne_iff_ne.2 k2
    have k2c : (QE.2.1 == 0) = false := beq_eq_false_iff_ne.2 k2
    have u0 := cell_of B11.out 0
    have t0 := cell_of B13.out 0
    simp only [List.getElem?_toArray, List.getElem?_cons_succ, List.getElem?_cons_zero] at u0 t0
    rw [k1] at u0
    go_upto_region 11 with fail
    clear u0 t0 k2b k2c k2 k1
    subst e2
    replace B0 := Lib.hid (C.out.at_ B0.out (by simp))
    replace B1 := Lib.hid (C.out.at_ B1.out (by simp))
    have z0 := cell_of B0.out 0
    have fz0 := free_of B0.out 0
    have z1 := cell_of B0.out 1
    have fz1 := free_of B0.out 1
    have z2 := cell_of B0.out 2
    have fz2 := free_of B0.out 2
    have z3 := cell_of B0.out 3
    have fz3 := free_of B0.out 3
    have z4 := cell_of B0.out 4
    have fz4 := free_of B0.out 4
    have z5 := cell_of B0.out 5
    have fz5 := free_of B0.out 5
    have z6 := cell_of B0.out 6
    have fz6 := free_of B0.out 6
    have y0 := cell_of B1.out 0
    have fy0 := free_of B1.out 0
    have y1 := cell_of B1.out 1
    have fy1 := free_of B1.out 1
    simp only [List.getElem?_toArray, List.getElem?_cons_succ, List.getElem?_cons_zero] at z0 z1 z2 z3 z4 z5 z6 y0 y1
    have d0 : ¬ g0 = g1 := NEg0.out
    have d1 : ¬ g1 = g0 := NEg1.out
    go_wp2
    clear z0 z1 z2 z3 z4 z5 z6 y0 y1 fz0 fz1 fz2 fz3 fz4 fz5 fz6 fy0 fy1
    clear d0 d1
    have P9 := put9 (.int .i64 0) (.int .i64 0) (.string ⟨#[]⟩) (.int .i64 0) (.int .i64 0) (.slice none 0 0) (.slice none 0 0) (.int .i64 2) (.int .i64 0) B0.out B1.out NEg0.out
    have C9 := ((((((((((Chg.refl [g0, g1] we).setCell (p := ⟨g0, 0, none⟩) (.inl (by simp)) (.int .i64 0)).setCell (p := ⟨g0, 1, none⟩) (.inl (by simp)) (.int .i64 0)).setCell (p := ⟨g0, 2, none⟩) (.inl (by simp)) (.string ⟨#[]⟩)).setCell (p := ⟨g0, 3, none⟩) (.inl (by simp)) (.int .i64 0)).setCell (p := ⟨g0, 4, none⟩) (.inl (by simp)) (.int .i64 0)).setCell (p := ⟨g0, 5, none⟩) (.inl (by simp)) (.slice none 0 0)).setCell (p := ⟨g0, 6, none⟩) (.inl (by simp)) (.slice none 0 0)).setCell (p := ⟨g1, 0, none⟩) (.inl (by simp)) (.int .i64 2)).setCell (p := ⟨g1, 1, none⟩) (.inl (by simp)) (.int .i64 0))
    generalize (((((((((we.setCell ⟨g0, 0, none⟩ (.int .i64 0)).setCell ⟨g0, 1, none⟩ (.int .i64 0)).setCell ⟨g0, 2, none⟩ (.string ⟨#[]⟩)).setCell ⟨g0, 3, none⟩ (.int .i64 0)).setCell ⟨g0, 4, none⟩ (.int .i64 0)).setCell ⟨g0, 5, none⟩ (.slice none 0 0)).setCell ⟨g0, 6, none⟩ (.slice none 0 0)).setCell ⟨g1, 0, none⟩ (.int .i64 2)).setCell ⟨g1, 1, none⟩ (.int .i64 0)) = wz at *
    have P0 := Lib.hid P9.1
    have P1 := Lib.hid P9.2
    have z0 := cell_of P0.out 0
    have z1 := cell_of P0.out 1
    have z2 := cell_of P0.out 2
    have z3 := cell_of P0.out 3
    have z4 := cell_of P0.out 4
    have z5 := cell_of P0.out 5
    have z6 := cell_of P0.out 6
    have y0 := cell_of P1.out 0
    have y1 := cell_of P1.out 1
    simp only [List.getElem?_toArray, List.getElem?_cons_succ, List.getElem?_cons_zero] at z0 z1 z2 z3 z4 z5 z6 y0 y1
    refine bodyPost_ret (v := .tuple #[.agg #[.int .i64 0, .int .i64 0, .string ⟨#[]⟩, .int .i64 0, .int .i64 0, .slice none 0 0, .slice none 0 0], .agg #[.int .i64 2, .int .i64 0]]) (by simp [results, Tryz.results25, go_sem, z0, z1, z2, z3, z4, z5, z6, y0, y1]) rfl ?_
    exact ⟨⟨0, 0, ⟨#[]⟩, 0, 0, none, 0, 0, none, 0, 0⟩, rfl, ⟨rfl, rfl, rfl, rfl, rfl, rfl, rfl, Bs.nil _ _, RdK.nil _ _⟩, OwnB.none_ _, OwnK.none_ _, by simp, by simp, by simp, (C0.out.trans C.out).trans' C9 (fun i hi => by simp at hi; have := SZ.out; have := S1.out; rcases hi with rfl | rfl; exact .inr (by omega); exact .inr (by omega))⟩
  have u0 := cell_of B11.out 0
  have t0 := cell_of B13.out 0
  simp only [List.getElem?_toArray, List.getElem?_cons_succ, List.getElem?_cons_zero] at u0 t0
  rw [k1] at u0
  rw [k2] at t0
  have z0 := cell_of B14.out 0
  have z1 := cell_of B14.out 1
  have z2 := cell_of B14.out 2
  have z3 := cell_of B14.out 3
  have z4 := cell_of B14.out 4
  have z5 := cell_of B14.out 5
  have z6 := cell_of B14.out 6
  simp only [List.getElem?_toArray, List.getElem?_cons_succ, List.getElem?_cons_zero] at z0 z1 z2 z3 z4 z5 z6
  go_wp2_with fail
  refine (evcheck_any we ⟨(vN1 xs).1, (vN2 xs).1, strOf (vT xs).1, RE.1.1, RE.1.2.1, A10, RE.1.2.2.length, c10, A13, QE.1.length, c13⟩ (evOf xs) ER.out ES.out).mono ?_
  rintro r wf ⟨rfl, hc⟩
  clear z0 z1 z2 z3 z4 z5 z6 
  clear u0 t0
  replace C := Lib.hid (C.out.trans hc)
  replace B14 := Lib.hid (hc.at_ B14.out (by simp))
  replace O10 := Lib.hid (O10.out.chg hc (by simp))
  replace P13 := Lib.hid (P13.out.chg hc (by simp))
  replace ER := Lib.hid (ER.out.chg hc)
  clear hc
  rcases chkEv_two (evOf xs) with k3 | k3
  rotate_left
  · skip
    rw [k3]
    have e2 : RR = (zeroEv, (2, 0)) := HRR.out.symm.trans (readEv_bad HE.out (fun q => absurd (k3.symm.trans q.2.2) (by decide)))
    go_upto_region 11 with fail
    clear k3 k1 k2
    subst e2
    replace B0 := Lib.hid (C.out.at_ B0.out (by simp))
    replace B1 := Lib.hid (C.out.at_ B1.out (by simp))
    have z0 := cell_of B0.out 0
    have fz0 := free_of B0.out 0
    have z1 := cell_of B0.out 1
    have fz1 := free_of B0.out 1
    have z2 := cell_of B0.out 2
    have fz2 := free_of B0.out 2
    have z3 := cell_of B0.out 3
    have fz3 := free_of B0.out 3
    have z4 := cell_of B0.out 4
    have fz4 := free_of B0.out 4
    have z5 := cell_of B0.out 5
    have fz5 := free_of B0.out 5
    have z6 := cell_of B0.out 6
    have fz6 := free_of B0.out 6
    have y0 := cell_of B1.out 0
    have fy0 := free_of B1.out 0
    have y1 := cell_of B1.out 1
    have fy1 := free_of B1.out 1
    simp only [List.getElem?_toArray, List.getElem?_cons_succ, List.getElem?_cons_zero] at z0 z1 z2 z3 z4 z5 z6 y0 y1
    have d0 : ¬ g0 = g1 := NEg0.out
    have d1 : ¬ g1 = g0 := NEg1.out
    go_wp2
    clear z0 z1 z2 z3 z4 z5 z6 y0 y1 fz0 fz1 fz2 fz3 fz4 fz5 fz6 fy0 fy1
    clear d0 d1
    have P9 := put9 (.int .i64 0) (.int .i64 0) (.string ⟨#[]⟩) (.int .i64 0) (.int .i64 0) (.slice none 0 0) (.slice none 0 0) (.int .i64 2) (.int .i64 0) B0.out B1.out NEg0.out
    have C9 := ((((((((((Chg.refl [g0, g1] wf).setCell (p := ⟨g0, 0, none⟩) (.inl (by simp)) (.int .i64 0)).setCell (p := ⟨g0, 1, none⟩) (.inl (by simp)) (.int .i64 0)).setCell (p := ⟨g0, 2, none⟩) (.inl (by simp)) (.string ⟨#[]⟩)).setCell (p := ⟨g0, 3, none⟩) (.inl (by simp)) (.int .i64 0)).setCell (p := ⟨g0, 4, none⟩) (.inl (by simp)) (.int .i64 0)).setCell (p := ⟨g0, 5, none⟩) (.inl (by simp)) (.slice none 0 0)).setCell (p := ⟨g0, 6, none⟩) (.inl (by simp)) (.slice none 0 0)).setCell (p := ⟨g1, 0, none⟩) (.inl (by simp)) (.int .i64 2)).setCell (p := ⟨g1, 1, none⟩) (.inl (by simp)) (.int .i64 0))
    generalize (((((((((wf.setCell ⟨g0, 0, none⟩ (.int .i64 0)).setCell ⟨g0, 1, none⟩ (.int .i64 0)).setCell ⟨g0, 2, none⟩ (.string ⟨#[]⟩)).setCell ⟨g0, 3, none⟩ (.int .i64 0)).setCell ⟨g0, 4, none⟩ (.int .i64 0)).setCell ⟨g0, 5, none⟩ (.slice none 0 0)).setCell ⟨g0, 6, none⟩ (.slice none 0 0)).setCell ⟨g1, 0, none⟩ (.int .i64 2)).setCell ⟨g1, 1, none⟩ (.int .i64 0)) = wz at *
    have P0 := Lib.hid P9.1
    have P1 := Lib.hid P9.2
    have z0 := cell_of P0.out 0
    have z1 := cell_of P0.out 1
    have z2 := cell_of P0.out 2
    have z3 := cell_of P0.out 3
    have z4 := cell_of P0.out 4
    have z5 := cell_of P0.out 5
    have z6 := cell_of P0.out 6
    have y0 := cell_of P1.out 0
    have y1 := cell_of P1.out 1
    simp only [List.getElem?_toArray, List.getElem?_cons_succ, List.getElem?_cons_zero] at z0 z1 z2 z3 z4 z5 z6 y0 y1
    refine bodyPost_ret (v := .tuple #[.agg #[.int .i64 0, .int .i64 0, .string ⟨#[]⟩, .int .i64 0, .int .i64 0, .slice none 0 0, .slice none 0 0], .agg #[.int .i64 2, .int .i64 0]]) (by simp [results, Tryz.results25, go_sem, z0, z1, z2, z3, z4, z5, z6, y0, y1]) rfl ?_
    exact ⟨⟨0, 0, ⟨#[]⟩, 0, 0, none, 0, 0, none, 0, 0⟩, rfl, ⟨rfl, rfl, rfl, rfl, rfl, rfl, rfl, Bs.nil _ _, RdK.nil _ _⟩, OwnB.none_ _, OwnK.none_ _, by simp, by simp, by simp, (C0.out.trans C.out).trans' C9 (fun i hi => by simp at hi; have := SZ.out; have := S1.out; rcases hi with rfl | rfl; exact .inr (by omega); exact .inr (by omega))⟩
  rw [k3]
  have e2 : RR = (evOf xs, (0, 0)) := HRR.out.symm.trans (readEv_good HE.out ⟨by rw [HRE.out]; exact k1, by rw [HQE.out]; exact k2, k3⟩)
  subst e2
  clear k1 k2 k3
  have eo : evOf xs = ⟨(vN1 xs).1, (vN2 xs).1, (vT xs).1, RE.1.1, RE.1.2.1, RE.1.2.2, QE.1⟩ := by unfold evOf; rw [HRE.out, HQE.out]
  have EO := Lib.hid eo
  clear eo
  go_upto_region 12 with fail
  replace B0 := Lib.hid (C.out.at_ B0.out (by simp))
  replace B1 := Lib.hid (C.out.at_ B1.out (by simp))
  have t0 := cell_of B14.out 0
  have t1 := cell_of B14.out 1
  have t2 := cell_of B14.out 2
  have t3 := cell_of B14.out 3
  have t4 := cell_of B14.out 4
  have t5 := cell_of B14.out 5
  have t6 := cell_of B14.out 6
  simp only [List.getElem?_toArray, List.getElem?_cons_succ, List.getElem?_cons_zero] at t0 t1 t2 t3 t4 t5 t6
  have z0 := cell_of B0.out 0
  have fz0 := free_of B0.out 0
  have z1 := cell_of B0.out 1
  have fz1 := free_of B0.out 1
  have z2 := cell_of B0.out 2
  have fz2 := free_of B0.out 2
  have z3 := cell_of B0.out 3
  have fz3 := free_of B0.out 3
  have z4 := cell_of B0.out 4
  have fz4 := free_of B0.out 4
  have z5 := cell_of B0.out 5
  have fz5 := free_of B0.out 5
  have z6 := cell_of B0.out 6
  have fz6 := free_of B0.out 6
  have y0 := cell_of B1.out 0
  have fy0 := free_of B1.out 0
  have y1 := cell_of B1.out 1
  have fy1 := free_of B1.out 1
  simp only [List.getElem?_toArray, List.getElem?_cons_succ, List.getElem?_cons_zero] at z0 z1 z2 z3 z4 z5 z6 y0 y1
  have d0 : ¬ g0 = g1 := NEg0.out
  have d1 : ¬ g1 = g0 := NEg1.out
  go_wp2
  clear z0 z1 z2 z3 z4 z5 z6 y0 y1 fz0 fz1 fz2 fz3 fz4 fz5 fz6 fy0 fy1
  clear d0 d1
  have P9 := put9 (.int .i64 (vN1 xs).1) (.int .i64 (vN2 xs).1) (.string (strOf (vT xs).1)) (.int .i64 RE.1.1) (.int .i64 RE.1.2.1) (.slice A10 RE.1.2.2.length c10) (.slice A13 QE.1.length c13) (.int .i64 0) (.int .i64 0) B0.out B1.out NEg0.out
  have C9 := ((((((((((Chg.refl [g0, g1] wf).setCell (p := ⟨g0, 0, none⟩) (.inl (by simp)) (.int .i64 (vN1 xs).1)).setCell (p := ⟨g0, 1, none⟩) (.inl (by simp)) (.int .i64 (vN2 xs).1)).setCell (p := ⟨g0, 2, none⟩) (.inl (by simp)) (.string (strOf (vT xs).1))).setCell (p := ⟨g0, 3, none⟩) (.inl (by simp)) (.int .i64 RE.1.1)).setCell (p := ⟨g0, 4, none⟩) (.inl (by simp)) (.int .i64 RE.1.2.1)).setCell (p := ⟨g0, 5, none⟩) (.inl (by simp)) (.slice A10 RE.1.2.2.length c10)).setCell (p := ⟨g0, 6, none⟩) (.inl (by simp)) (.slice A13 QE.1.length c13)).setCell (p := ⟨g1, 0, none⟩) (.inl (by simp)) (.int .i64 0)).setCell (p := ⟨g1, 1, none⟩) (.inl (by simp)) (.int .i64 0))
  generalize (((((((((wf.setCell ⟨g0, 0, none⟩ (.int .i64 (vN1 xs).1)).setCell ⟨g0, 1, none⟩ (.int .i64 (vN2 xs).1)).setCell ⟨g0, 2, none⟩ (.string (strOf (vT xs).1))).setCell ⟨g0, 3, none⟩ (.int .i64 RE.1.1)).setCell ⟨g0, 4, none⟩ (.int .i64 RE.1.2.1)).setCell ⟨g0, 5, none⟩ (.slice A10 RE.1.2.2.length c10)).setCell ⟨g0, 6, none⟩ (.slice A13 QE.1.length c13)).setCell ⟨g1, 0, none⟩ (.int .i64 0)).setCell ⟨g1, 1, none⟩ (.int .i64 0)) = wz at *
  have P0 := Lib.hid P9.1
  have P1 := Lib.hid P9.2
  have z0 := cell_of P0.out 0
  have z1 := cell_of P0.out 1
  have z2 := cell_of P0.out 2
  have z3 := cell_of P0.out 3
  have z4 := cell_of P0.out 4
  have z5 := cell_of P0.out 5
  have z6 := cell_of P0.out 6
  have y0 := cell_of P1.out 0
  have y1 := cell_of P1.out 1
  simp only [List.getElem?_toArray, List.getElem?_cons_succ, List.getElem?_cons_zero] at z0 z1 z2 z3 z4 z5 z6 y0 y1
  refine bodyPost_ret (v := .tuple #[.agg #[.int .i64 (vN1 xs).1, .int .i64 (vN2 xs).1, .string (strOf (vT xs).1), .int .i64 RE.1.1, .int .i64 RE.1.2.1, .slice A10 RE.1.2.2.length c10, .slice A13 QE.1.length c13], .agg #[.int .i64 0, .int .i64 0]]) (by simp [results, Tryz.results25, go_sem, z0, z1, z2, z3, z4, z5, z6, y0, y1]) rfl ?_
  refine ⟨⟨(vN1 xs).1, (vN2 xs).1, strOf (vT xs).1, RE.1.1, RE.1.2.1, A10, RE.1.2.2.length, c10, A13, QE.1.length, c13⟩, rfl, ⟨ER.out.n, ER.out.s, ER.out.p, ER.out.k, ER.out.m, ER.out.l, ER.out.bl, ER.out.A.chg C9 (fun a ha => by have := N10.out a ha; have := L0.out; have := LS9.out; have := LZ9.out; simp; omega), ER.out.B.chg C9 (fun a ha => by have := NN13.out a ha; have := L0.out; have := LS9.out; have := LZ9.out; simp; omega)⟩, ?_, ?_, ?_, ?_, ?_, ?_⟩
  · rw [EO.out]
    exact O10.out.chg C9 (fun a ha => by have := N10.out a ha; have := L0.out; have := LS9.out; have := LZ9.out; simp; omega)
  · rw [EO.out]
    exact P13.out.chg C9 (fun a ha => by have := NN13.out a ha; have := L0.out; have := LS9.out; have := LZ9.out; simp; omega)
  · exact fun a ha => by have := N10.out a ha; have := C0.out.size; have := LS9.out; have := LZ9.out; omega
  · exact fun a ha => by have := NN13.out a ha; have := C0.out.size; have := LS9.out; have := LZ9.out; omega
  · exact fun a b ha hb => by have := NX10.out a ha; have := N13.out b hb; have := LW12.out; omega
  · exact (C0.out.trans C.out).trans' C9 (fun i hi => by simp at hi; have := SZ.out; have := S1.out; rcases hi with rfl | rfl; exact .inr (by omega); exact .inr (by omega))
end
section
open Go.RowKit Go.Lib
set_option linter.unusedSimpArgs false
set_option linter.unusedVariables false
end
section
open Go.RowKit

theorem nb_zero : nb 0 = 0 := by decide
theorem nb_small (n : Nat) (h0 : 0 < n) (h : n < 256) : nb n = 1 := by
  have h1 := Lib.bitLen_le n 8 (by omega) (by omega)
  have h2 := Lib.bitLen_half n (by omega) (by omega)
  unfold nb
  omega
theorem nb_step (n : Nat) (h : 256 ≤ n) (hn : n < 18446744073709551616) : nb n = 1 + nb (n / 256) := by
  have := Lib.bitLen_shift8 n h hn
  unfold nb
  omega
theorem nb_range (n : Nat) : n < 18446744073709551616 → n < 256 ^ nb n ∧ (0 < n → 256 ^ (nb n - 1) ≤ n ∧ 0 < nb n) := by
  induction n using Nat.strongRecOn with
  | _ n ih =>
    intro hn
    by_cases h0 : n = 0
    · subst h0; rw [nb_zero]; decide
    by_cases h : n < 256
    · rw [nb_small n (by omega) h]
      exact ⟨by simpa using h, fun _ => ⟨by simp; omega, by omega⟩⟩
    · have := ih (n / 256) (by omega) (by omega)
      rw [nb_step n (by omega) hn]
      obtain ⟨h1, h2⟩ := this
      obtain ⟨h3, h4⟩ := h2 (by omega)
      obtain ⟨k, hk⟩ : ∃ k, nb (n / 256) = k + 1 := ⟨nb (n / 256) - 1, by omega⟩
      rw [hk] at h1 h3 ⊢
      rw [show 1 + (k + 1) - 1 = k + 1 by omega, show 1 + (k + 1) = (k + 1) + 1 by omega]
      rw [show k + 1 - 1 = k by omega] at h3
      rw [Nat.pow_succ] at h1
      rw [Nat.pow_succ 256 (k + 1), Nat.pow_succ]
      omega

theorem val_from (l : List UInt8) : ∀ a : Nat, l.foldl (fun n x => n * 256 + x.toNat) a = a * 256 ^ l.length + val l := by
  induction l with
  | nil => intro a; simp [val]
  | cons c l ih =>
    intro a
    simp only [List.foldl_cons, val, List.length_cons, Nat.pow_succ]
    rw [ih, ih]
    simp only [Nat.zero_mul, Nat.zero_add]
    rw [Nat.add_mul, Nat.mul_assoc, Nat.mul_comm 256 (256 ^ l.length), Nat.add_assoc]
theorem val_cons (c : UInt8) (l : List UInt8) : val (c :: l) = c.toNat * 256 ^ l.length + val l := by
  have := val_from l c.toNat
  simp only [val, List.foldl_cons, Nat.zero_mul, Nat.zero_add] at this ⊢
  exact this
end
section
open Go.RowKit

theorem be_mod : ∀ (k a m : Nat), be k (a * 256 ^ k + m) = be k m
  | 0, _, _ => rfl
  | k + 1, a, m => by
    have e : a * 256 ^ (k + 1) + m = (a * 256) * 256 ^ k + m := by rw [Nat.pow_succ, Nat.mul_assoc, Nat.mul_comm 256]
    have hp : 0 < 256 ^ k := Nat.pow_pos (by omega)
    rw [e, be, be, be_mod k (a * 256) m]
    congr 1
    rw [Nat.add_comm, Nat.add_mul_div_right _ _ hp]
    apply UInt8.toNat_inj.1
    simp
theorem be_val : ∀ (ys : List UInt8), be ys.length (val ys) = ys
  | [] => rfl
  | c :: t => by
    have ht := val_lt t.length t rfl
    have hp : 0 < 256 ^ t.length := Nat.pow_pos (by omega)
    rw [List.length_cons, be, val_cons, be_mod, be_val t]
    congr 1
    rw [Nat.add_comm, Nat.add_mul_div_right _ _ hp, Nat.div_eq_of_lt ht, Nat.zero_add]
    simp
theorem dv_ge (xs : List UInt8) (p : Nat) : ∀ k, p + 1 + (k + 1) ≤ xs.length → bt xs (p + 1) * 256 ^ k ≤ dv xs p (k + 1)
  | 0, h => by
    have := dv_succ xs p 0 (by omega)
    rw [dv_zero, Nat.add_zero] at this
    rw [this, Nat.pow_zero]
    simp
  | k + 1, h => by
    have ih := dv_ge xs p k (by omega)
    have e := dv_succ xs p (k + 1) (by omega)
    rw [e, Nat.pow_succ, ← Nat.mul_assoc]
    omega
theorem nb_unique (v n : Nat) (hv : v < 18446744073709551616) (h1 : v < 256 ^ n) (h2 : 0 < n → 256 ^ (n - 1) ≤ v) : nb v = n := by
  obtain ⟨r1, r2⟩ := nb_range v hv
  rcases Nat.lt_trichotomy (nb v) n with h | h | h
  · have h3 := h2 (by omega)
    have h4 : 256 ^ nb v ≤ 256 ^ (n - 1) := Nat.pow_le_pow_right (by omega) (by omega)
    omega
  · exact h
  · have h0 : 0 < v := by
      rcases Nat.eq_zero_or_pos v with e | e
      · subst e; rw [nb_zero] at h; omega
      · exact e
    have h3 := (r2 h0).1
    have h4 : 256 ^ n ≤ 256 ^ (nb v - 1) := Nat.pow_le_pow_right (by omega) (by omega)
    omega

/-- A number that was read has just the bytes that it was read from. -/
theorem numAt_take {xs : List UInt8} {p : Nat} {low high : Int} {v q : Nat} (h : numAt xs p low high = .ok (v, q)) (hp : p ≤ xs.length) : xs.take q = xs.take p ++ enc v := by
  have hok := numAt_ok h hp
  unfold numAt at h
  split at h
  · cases h
  split at h
  · cases h
  split at h
  · cases h
  split at h
  · cases h
  split at h
  · cases h
  rename_i h1 h2 h3 h4 h5
  cases h
  have hn : nb (dv xs p (bt xs p)) = bt xs p := by
    refine nb_unique _ _ (by omega) (dv_lt xs p _ (by omega)) (fun h0 => ?_)
    obtain ⟨k, hk⟩ : ∃ k, bt xs p = k + 1 := ⟨bt xs p - 1, by omega⟩
    have := dv_ge xs p k (by omega)
    rw [hk, show k + 1 - 1 = k by omega]
    have hb : 1 ≤ bt xs (p + 1) := by
      rcases Nat.eq_zero_or_pos (bt xs (p + 1)) with e | e
      · exact absurd ⟨h0, e⟩ h4
      · exact e
    calc 256 ^ k = 1 * 256 ^ k := (Nat.one_mul _).symm
      _ ≤ bt xs (p + 1) * 256 ^ k := Nat.mul_le_mul_right _ hb
      _ ≤ _ := this
  have hlt : p < xs.length := by omega
  have e1 : xs.take (p + 1 + bt xs p) = xs.take p ++ (xs[p] :: ((xs.drop (p + 1)).take (bt xs p))) := by
    rw [Nat.add_assoc, List.take_add, List.drop_eq_getElem_cons hlt, Nat.add_comm 1, List.take_succ_cons]
  rw [e1]
  congr 1
  unfold enc
  rw [hn]
  have hlen : ((xs.drop (p + 1)).take (bt xs p)).length = bt xs p := by simp; omega
  congr 1
  · unfold bt
    simp [List.getD, hlt]
  · have := be_val ((xs.drop (p + 1)).take (bt xs p))
    rw [hlen] at this
    exact this.symm
/-- Bytes that were read have just the bytes that they were read from. -/
theorem rRaw_take {xs : List UInt8} {p : Nat} {fe fa most : Int} (hp : p ≤ xs.length) (he : (rRaw xs p fe fa most).2.2.1 = 0) :
    xs.take (rRaw xs p fe fa most).2.1 = xs.take p ++ (enc (rRaw xs p fe fa most).1.length ++ (rRaw xs p fe fa most).1) := by
  unfold rRaw at he ⊢
  split at he
  · rename_i h; exact absurd he h
  · rename_i h
    rw [if_neg h]
    cases hn : numAt xs p 0 4611686018427387903 with
    | error x =>
      obtain ⟨f, q⟩ := x
      simp only [hn] at he
      have := numAt_err hn
      omega
    | ok x =>
      obtain ⟨n, q⟩ := x
      have hok := numAt_ok hn hp
      simp only [hn] at he ⊢
      split at he
      · simp at he
      split at he
      · simp at he
      rename_i h1 h2
      rw [if_neg h1, if_neg h2]
      simp only
      have hl : ((xs.drop q).take n).length = n := by simp; omega
      rw [hl, ← List.append_assoc, ← numAt_take hn hp, List.take_add]
theorem rNum_take {xs : List UInt8} {p : Nat} {fe fa low high : Int} (hp : p ≤ xs.length) (he : (rNum xs p fe fa low high).2.2.1 = 0) :
    xs.take (rNum xs p fe fa low high).2.1 = xs.take p ++ enc (rNum xs p fe fa low high).1.toNat ∧ 0 ≤ (rNum xs p fe fa low high).1 ∧ (rNum xs p fe fa low high).1 ≤ 4611686018427387903 := by
  unfold rNum at he ⊢
  split at he
  · rename_i h; exact absurd he h
  · rename_i h
    rw [if_neg h]
    cases hn : numAt xs p low high with
    | error x =>
      obtain ⟨f, q⟩ := x
      simp only [hn] at he
      have := numAt_err hn
      omega
    | ok x =>
      obtain ⟨n, q⟩ := x
      have hok := numAt_ok hn hp
      exact ⟨numAt_take hn hp, by simp only; omega, by simp only; omega⟩
end
section
open Go.RowKit

/-- What reads as an effect without a fault is its bytes. -/
theorem readE_again {xs : List UInt8} (h : (readE xs).2.1 = 0) : Fine (readE xs).1.1 (readE xs).1.2.1 (readE xs).1.2.2.length ∧ effB (readE xs).1.1 (readE xs).1.2.1 (readE xs).1.2.2 = xs := by
  unfold readE at h ⊢
  by_cases hf : (eF xs).1 ≠ 0
  · rw [if_pos hf] at h; exact absurd h hf
  · rw [if_neg hf] at h ⊢
    by_cases hg : Fine (eN1 xs).1 (eN2 xs).1 (eR3 xs).1.length
    · rw [if_pos hg]
      refine ⟨hg, ?_⟩
      have hz : (eF xs).1 = 0 := by simpa using hf
      unfold eF at hz
      obtain ⟨z3, _, hp⟩ := endR_calm hz
      have z3' := z3
      unfold eR3 at z3'
      obtain ⟨z2, _⟩ := rRaw_calm z3'
      have z2' := z2
      unfold eN2 at z2'
      obtain ⟨z1, _⟩ := rNum_calm z2'
      have l1 : (eN1 xs).2.1 ≤ xs.length := by unfold eN1; exact rNum_le (by omega)
      have l2 : (eN2 xs).2.1 ≤ xs.length := by unfold eN2; exact rNum_le l1
      have t1 := (rNum_take (xs := xs) (p := 0) (fe := 0) (fa := 0) (low := 1) (high := 3) (by omega) (by unfold eN1 at z1; exact z1)).1
      have t2 := (rNum_take (xs := xs) l1 z2').1
      have t3 := rRaw_take (xs := xs) l2 z3'
      change xs.take (eN1 xs).2.1 = _ ++ enc (eN1 xs).1.toNat at t1
      change xs.take (eN2 xs).2.1 = _ ++ enc (eN2 xs).1.toNat at t2
      change xs.take (eR3 xs).2.1 = _ ++ (enc (eR3 xs).1.length ++ (eR3 xs).1) at t3
      rw [List.take_of_length_le hp, t2, t1] at t3
      unfold effB
      rw [List.take_zero, List.nil_append] at t3
      conv => rhs; rw [t3]
      simp
    · rw [if_neg hg] at h; simp at h

theorem numAt_place {xs : List UInt8} {p : Nat} {low high : Int} {f q : Nat} (h : numAt xs p low high = .error (f, q)) (hp : p ≤ xs.length) : q ≤ xs.length := by
  unfold numAt at h
  repeat (split at h; · (cases h; omega))
  cases h
theorem rNum_place {xs : List UInt8} {p : Nat} {fe fa low high : Int} (hp : p ≤ xs.length) (h0 : 0 ≤ fa) (h1 : fa ≤ xs.length) : 0 ≤ (rNum xs p fe fa low high).2.2.2 ∧ (rNum xs p fe fa low high).2.2.2 ≤ xs.length := by
  unfold rNum
  split
  · exact ⟨h0, h1⟩
  · cases hn : numAt xs p low high with
    | error x => obtain ⟨f, q⟩ := x; have := numAt_place hn hp; simp only; omega
    | ok x => exact ⟨h0, h1⟩
theorem rRaw_place {xs : List UInt8} {p : Nat} {fe fa most : Int} (hp : p ≤ xs.length) (h0 : 0 ≤ fa) (h1 : fa ≤ xs.length) : 0 ≤ (rRaw xs p fe fa most).2.2.2 ∧ (rRaw xs p fe fa most).2.2.2 ≤ xs.length := by
  unfold rRaw
  split
  · exact ⟨h0, h1⟩
  · cases hn : numAt xs p 0 4611686018427387903 with
    | error x => obtain ⟨f, q⟩ := x; have := numAt_place hn hp; simp only; omega
    | ok x =>
      obtain ⟨n, q⟩ := x
      simp only
      split
      · simp only; omega
      · split
        · simp only; omega
        · exact ⟨h0, h1⟩
theorem endR_place {xs : List UInt8} {p : Nat} {fe fa : Int} (_hp : p ≤ xs.length) (h0 : 0 ≤ fa) (h1 : fa ≤ xs.length) : 0 ≤ (endR xs p fe fa).2 ∧ (endR xs p fe fa).2 ≤ xs.length := by
  unfold endR
  split
  · simp only; omega
  · exact ⟨h0, h1⟩
end
section
set_option linter.unusedSimpArgs false
set_option linter.unusedVariables false

theorem cut_sum : ∀ (l acc : List UInt8), ((cutA acc l).map (fun p => p.length + 1)).sum = acc.length + l.length + 1
  | [], acc => by simp [cutA]
  | b :: l, acc => by
    unfold cutA
    split
    · rw [List.map_cons, List.sum_cons, cut_sum l []]
      simp
      omega
    · rw [cut_sum l (acc ++ [b])]
      simp
      omega
theorem sum_le : ∀ (L : List (List UInt8)), (∀ p ∈ L, p.length ≤ 12) → (L.map (fun p => p.length + 1)).sum ≤ 13 * L.length
  | [], _ => by simp
  | p :: L, h => by
    have h1 := h p (by simp)
    have h2 := sum_le L (fun q hq => h q (by simp [hq]))
    rw [List.map_cons, List.sum_cons, List.length_cons]
    omega
theorem checkL_len {p : List UInt8} (h : checkL 6 12 p = true) : p.length ≤ 77 := by
  unfold checkL at h
  rw [Bool.and_eq_true, decide_eq_true_eq, List.all_eq_true] at h
  have s := cut_sum p []
  have b := sum_le (cutL p) (fun q hq => by
    have r := h.2 q hq
    unfold partL at r
    simp only [Bool.and_eq_true, decide_eq_true_eq] at r
    omega)
  have h1 := h.1
  unfold cutL at *
  simp at s
  omega
def evB (e : EvP) : List UInt8 := enc e.n.toNat ++ enc e.s.toNat ++ (enc e.p.length ++ e.p) ++ (enc (effB e.k e.m e.b).length ++ effB e.k e.m e.b) ++ (enc (spansB e.q).length ++ spansB e.q)
theorem chkEv_ok {e : EvP} (h : chkEv e = 0) : EvOk e := by
  unfold chkEv at h
  split at h
  · assumption
  · exact absurd h (by decide)
/-- What an event that may be is made of. -/
theorem ok_parts {e : EvP} (h : chkEv e = 0) : (1 ≤ e.n ∧ e.n ≤ 200 ∧ 1 ≤ e.s ∧ e.s ≤ 2147483647) ∧ e.p.length ≤ 77 ∧ Fine e.k e.m e.b.length ∧ chkS e.q = 0 := by
  obtain ⟨h0, h1, h2, h3, _⟩ := chkEv_ok h
  refine ⟨?_, checkL_len h1, ?_, h3⟩
  · exact Decidable.byContradiction (fun q => absurd h0 (by show ¬ chkD e.n e.s = 0; rw [chkD_odd q]; decide))
  · exact Decidable.byContradiction (fun q => absurd h2 (by show ¬ chkE e.k e.m e.b.length = 0; unfold chkE; rw [if_neg q]; decide))
/-- What reads as an event without a fault is its bytes. -/
theorem ev_again {xs : List UInt8} (h : (readEv xs).2.1 = 0) : chkEv (readEv xs).1 = 0 ∧ evB (readEv xs).1 = xs := by
  by_cases hf : (vF xs).1 = 0
  · by_cases hg : (readE (vX xs).1).2.1 = 0 ∧ (readS (vP xs).1).2.1 = 0 ∧ chkEv (evOf xs) = 0
    · rw [readEv_good hf hg]
      refine ⟨hg.2.2, ?_⟩
      have hz := hf
      unfold vF at hz
      obtain ⟨z5, _, hp⟩ := endR_calm hz
      have z5' := z5
      unfold vP at z5'
      obtain ⟨z4, _⟩ := rRaw_calm z5'
      have z4' := z4
      unfold vX at z4'
      obtain ⟨z3, _⟩ := rRaw_calm z4'
      have z3' := z3
      unfold vT at z3'
      obtain ⟨z2, _⟩ := rRaw_calm z3'
      have z2' := z2
      unfold vN2 at z2'
      obtain ⟨z1, _⟩ := rNum_calm z2'
      have l1 : (vN1 xs).2.1 ≤ xs.length := by unfold vN1; exact rNum_le (by omega)
      have l2 : (vN2 xs).2.1 ≤ xs.length := by unfold vN2; exact rNum_le l1
      have l3 : (vT xs).2.1 ≤ xs.length := by unfold vT; exact (rRaw_le l2).2
      have l4 : (vX xs).2.1 ≤ xs.length := by unfold vX; exact (rRaw_le l3).2
      have t1 := (rNum_take (xs := xs) (p := 0) (fe := 0) (fa := 0) (low := 1) (high := 200) (by omega) (by unfold vN1 at z1; exact z1)).1
      have t2 := (rNum_take (xs := xs) l1 z2').1
      have t3 := rRaw_take (xs := xs) l2 z3'
      have t4 := rRaw_take (xs := xs) l3 z4'
      have t5 := rRaw_take (xs := xs) l4 z5'
      change xs.take (vN1 xs).2.1 = _ ++ enc (vN1 xs).1.toNat at t1
      change xs.take (vN2 xs).2.1 = _ ++ enc (vN2 xs).1.toNat at t2
      change xs.take (vT xs).2.1 = _ ++ (enc (vT xs).1.length ++ (vT xs).1) at t3
      change xs.take (vX xs).2.1 = _ ++ (enc (vX xs).1.length ++ (vX xs).1) at t4
      change xs.take (vP xs).2.1 = _ ++ (enc (vP xs).1.length ++ (vP xs).1) at t5
      rw [List.take_of_length_le hp, t4, t3, t2, t1] at t5
      have ra := (readE_again hg.1).2
      have rb := bytes_back hg.2.1
      have bo : bytesO (readS (vP xs).1).1 = spansB (readS (vP xs).1).1 := if_pos rb.2
      have rb1 := rb.1
      rw [bo] at rb1
      unfold evB evOf
      simp only
      rw [ra, rb1]
      rw [List.take_zero, List.nil_append] at t5
      conv => rhs; rw [t5]
    · rw [readEv_bad hf hg] at h
      exact absurd h (by decide)
  · unfold readEv at h
    rw [if_pos hf] at h
    exact absurd h hf
theorem ev_fault {xs : List UInt8} (h : (readEv xs).2.1 ≠ 0) : (readEv xs).1 = zeroEv ∧ 0 ≤ (readEv xs).2.2 ∧ (readEv xs).2.2 ≤ xs.length := by
  by_cases hf : (vF xs).1 = 0
  · by_cases hg : (readE (vX xs).1).2.1 = 0 ∧ (readS (vP xs).1).2.1 = 0 ∧ chkEv (evOf xs) = 0
    · rw [readEv_good hf hg] at h
      exact absurd rfl h
    · rw [readEv_bad hf hg]
      exact ⟨rfl, by simp, by simp⟩
  · unfold readEv
    rw [if_pos hf]
    refine ⟨rfl, ?_⟩
    have l1 : (vN1 xs).2.1 ≤ xs.length := by unfold vN1; exact rNum_le (by omega)
    have l2 : (vN2 xs).2.1 ≤ xs.length := by unfold vN2; exact rNum_le l1
    have l3 : (vT xs).2.1 ≤ xs.length := by unfold vT; exact (rRaw_le l2).2
    have l4 : (vX xs).2.1 ≤ xs.length := by unfold vX; exact (rRaw_le l3).2
    have l5 : (vP xs).2.1 ≤ xs.length := by unfold vP; exact (rRaw_le l4).2
    have p1 : 0 ≤ (vN1 xs).2.2.2 ∧ (vN1 xs).2.2.2 ≤ xs.length := by unfold vN1; exact rNum_place (by omega) (by omega) (by omega)
    have p2 : 0 ≤ (vN2 xs).2.2.2 ∧ (vN2 xs).2.2.2 ≤ xs.length := by unfold vN2; exact rNum_place l1 p1.1 p1.2
    have p3 : 0 ≤ (vT xs).2.2.2 ∧ (vT xs).2.2.2 ≤ xs.length := by unfold vT; exact rRaw_place l2 p2.1 p2.2
    have p4 : 0 ≤ (vX xs).2.2.2 ∧ (vX xs).2.2.2 ≤ xs.length := by unfold vX; exact rRaw_place l3 p3.1 p3.2
    have p5 : 0 ≤ (vP xs).2.2.2 ∧ (vP xs).2.2.2 ≤ xs.length := by unfold vP; exact rRaw_place l4 p4.1 p4.2
    unfold vF
    exact endR_place l5 p5.1 p5.2
end
section
open Go.RowKit

theorem OwnB.one (w : World) (c : UInt8) (x : Int) (hx : x = (c.toNat : Int)) : OwnB (w.alloc (.cells #[.int .u8 x] 5)) (some ⟨w.heap.size, 0, none⟩) 1 [c] := by
  subst hx
  exact .of (full := [c]) (heap_alloc_new w _) (by simp) (by simp [maxLen]) rfl (by simp)

/-- What is left of a number above its lowest k digits. -/
def up (n k : Nat) : Nat := n / 256 ^ k
end
section
open Go.RowKit

def VWr (w : World) (b g : Nat) (xs : List UInt8) (e : Int) : Prop :=
  ∃ A c, w.heap[b]? = some (.cells #[.slice A xs.length c, .int .i64 e] 74 (0, 0)) ∧ OwnB w A c xs ∧ (A = none ∧ g = b ∨ A = some ⟨g, 0, none⟩)
theorem VWr.chg {S : List Nat} {w w' : World} {b g : Nat} {xs : List UInt8} {e : Int} (h : VWr w b g xs e) (hc : Chg S w w') (hb : b ∉ S) (hg : g ∉ S) : VWr w' b g xs e := by
  obtain ⟨A, c, h1, h2, h3⟩ := h
  refine ⟨A, c, hc.at_ h1 hb, h2.chg hc ?_, h3⟩
  rintro a rfl
  rcases h3 with ⟨h3, _⟩ | h3
  · cases h3
  · cases h3; exact hg
theorem VWr.lt {w : World} {b g : Nat} {xs : List UInt8} {e : Int} (h : VWr w b g xs e) : b < w.heap.size ∧ g < w.heap.size := by
  obtain ⟨A, c, h1, h2, h3⟩ := h
  have hb := lt_of_heap h1
  rcases h3 with ⟨_, rfl⟩ | rfl
  · exact ⟨hb, hb⟩
  · rcases h2.form with ⟨h, _⟩ | ⟨g', cur, h, h4, _⟩
    · cases h
    · cases h; exact ⟨hb, lt_of_heap h4⟩
def VBetween (w wr : World) (b g : Nat) (xs : List UInt8) (e : Int) : Prop := ∃ g', VWr wr b g' xs e ∧ Chg [b, g] w wr ∧ (g' = g ∨ w.heap.size ≤ g')
theorem VBetween.refl {w : World} {b g : Nat} {xs : List UInt8} {e : Int} (h : VWr w b g xs e) : VBetween w w b g xs e := ⟨g, h, Chg.refl _ _, .inl rfl⟩
/-- What is new ahead of the call is no matter. -/
theorem VBetween.later {w w1 w2 : World} {b g : Nat} {xs : List UInt8} {e : Int} (hc : Chg [] w w1) (h : VBetween w1 w2 b g xs e) : VBetween w w2 b g xs e := by
  obtain ⟨g', h1, h2, h3⟩ := h
  have := hc.size
  refine ⟨g', h1, (hc.mono (by simp)).trans h2, ?_⟩
  rcases h3 with h3 | h3
  · exact .inl h3
  · right; omega
end
section
open Go.RowKit
end
end Go.Proofs.YtgbidlhgmeglmaaGreatDoor
