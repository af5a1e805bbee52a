/- told and says: what a writer tells behind one act. -/
import Derived.Test.YtknhgicpndgdoaaLaw
namespace Go.Proofs.Ytknhgicpndgdoaa
open Go.RowKit

/-- One act in a row of its own. -/
def OneAct (w : World) (a : Nat) (kind n : Int) (s : ByteArray) (B : Option Addr) (m d : Nat) : Prop := w.heap[a]? = some (.cells #[.int .i64 kind, .int .i64 n, .string s, .slice B m d] 34 (0, 0))

set_option maxHeartbeats 400000 in
theorem told_any (w : World) (a : Nat) (kind n : Int) (s : ByteArray) (B : Option Addr) (m d : Nat) (ys : List UInt8) (ha : OneAct w a kind n s B m d) (hs : s.size ≤ 140737488351232) (hm : m ≤ 140737488351232) (hr : Bs w B m ys) :
    Calls Try.prog 32 #[.slice (some ⟨a, 0, none⟩) 1 1] w fun r w' => ∃ A c, r = .returned (.tuple #[.slice A (outs (wAct [] 0 kind n s.data.toList ys).1 (wAct [] 0 kind n s.data.toList ys).2).length c, .int .i64 (wAct [] 0 kind n s.data.toList ys).2]) ∧ Fresh w w' A c (outs (wAct [] 0 kind n s.data.toList ys).1 (wAct [] 0 kind n s.data.toList ys).2) := by
  have hwl : (wAct [] 0 kind n s.data.toList ys).1.length ≤ 1048576 := wAct_len (by simp)
  have hw := fun w1 (b : Nat) (h : Wrt w1 b b [] 0) (hr : Bs w1 B m ys) (hB : Apart B ys b b) => write_any w1 b b [] 0 kind n s B m d ys h (by simp) hs hm hr hB
  generalize wAct [] 0 kind n s.data.toList ys = st at hwl hw
  obtain ⟨zs, e⟩ := st
  have HW := Lib.hid hw
  have HA := Lib.hid ha
  have HR := Lib.hid hr
  clear hw ha hr
  go_enter Try.func32, Try.ntmps32
  go_wp2_with fail
  refine (new_any w).mono ?_
  rintro r w1 ⟨rfl, h1, c1⟩
  have a1 := c1.at_ HA.out (by simp)
  have k0 := cell_of a1 0
  have k1 := cell_of a1 1
  have k2 := cell_of a1 2
  have k3 := cell_of a1 3
  simp only [List.getElem?_toArray, List.getElem?_cons_succ, List.getElem?_cons_zero] at k0 k1 k2 k3
  have C1 := Lib.hid c1
  have H1 := Lib.hid h1
  clear c1 h1 a1
  go_wp2
  refine wp_loop_rounds 2 ?_
  rw [rounds_succ]
  go_wp2_with fail
  refine (HW.out w1 w.heap.size H1.out (HR.out.chg C1.out (by simp)) (HR.out.apart (Nat.le_refl _) (Nat.le_refl _))).mono ?_
  rintro r w2 ⟨rfl, g1, p1, p2, p3⟩
  have P2 := Lib.hid p2
  have P3 := Lib.hid p3
  clear p2 p3
  go_wp2
  rw [rounds_succ]
  go_wp2_with fail
  refine (wout_any w2 w.heap.size g1 zs e p1 hwl).mono ?_
  rintro r w3 ⟨A, c, rfl, f1, f2, f3⟩
  have F2 := Lib.hid f2
  clear f2
  go_wp2
  go_ret2
  refine ⟨A, c, rfl, f1, ?_, ?_⟩
  · intro p ep
    have h1 := F2.out p ep
    have h2 := C1.out.size
    have h3 := P2.out.size
    omega
  · refine (C1.out.trans' P2.out ?_).trans f3
    intro i hi
    simp at hi
    subst hi
    right; omega
end Go.Proofs.Ytknhgicpndgdoaa
