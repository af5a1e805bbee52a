/- Package dot: Bytes; the document's. -/
import Derived.Test.YtmcnfopiilplnaaDoorDless
import Derived.Test.YtmcnfopiilplnaaDoorMem
import Derived.Deep.Cut
namespace Go.Proofs.YtmcnfopiilplnaaDoor
open Go.RowKit
set_option linter.unusedSimpArgs false
set_option linter.unusedVariables false


/-- A dot's bytes. -/
def dotB (n s : Int) : List UInt8 := UInt8.ofNat n.toNat :: be 4 s.toNat
def dotO (n s : Int) : List UInt8 := if FineD n s then dotB n s else []
theorem dotO_fine {n s : Int} (h : FineD n s) : dotO n s = dotB n s := if_pos h
theorem dotO_odd {n s : Int} (h : ¬ FineD n s) : dotO n s = [] := if_neg h
theorem dotB_len (n s : Int) : (dotB n s).length = 5 := by simp [dotB, be_len]
theorem dotB_cells {n s : Int} (h : FineD n s) : #[Value.int .u8 (n % 256), Value.int .u8 (s / 16777216 % 256), Value.int .u8 (s / 65536 % 256), Value.int .u8 (s / 256 % 256), Value.int .u8 (s % 256)].toList = (dotB n s).map bv := by
  obtain ⟨h1, h2, h3, h4⟩ := h
  have e : ∀ a b : Int, a = b → Value.int .u8 a = Value.int .u8 b := fun _ _ h => by rw [h]
  simp only [dotB, be, List.map_cons, List.map_nil, bv, UInt8.toNat_ofNat']
  rw [e (n % 256) _ (show n % 256 = ((n.toNat % 2 ^ 8 : Nat) : Int) by omega), e (s / 16777216 % 256) _ (show s / 16777216 % 256 = ((s.toNat / 256 ^ 3 % 2 ^ 8 : Nat) : Int) by omega), e (s / 65536 % 256) _ (show s / 65536 % 256 = ((s.toNat / 256 ^ 2 % 2 ^ 8 : Nat) : Int) by omega), e (s / 256 % 256) _ (show s / 256 % 256 = ((s.toNat / 256 ^ 1 % 2 ^ 8 : Nat) : Int) by omega), e (s % 256) _ (show s % 256 = ((s.toNat / 256 ^ 0 % 2 ^ 8 : Nat) : Int) by omega)]
theorem Fresh.five {w w1 : World} (hc : Chg [] w w1) {C : Array Value} {n s : Int} (h : C.toList = (dotB n s).map bv) : Fresh w (w1.alloc (.cells C 5)) (some ⟨w1.heap.size, 0, none⟩) 5 (dotB n s) := by
  have e : C = ((dotB n s).map bv).toArray := Array.toList_inj.1 h
  subst e
  exact ⟨.of (full := dotB n s) (heap_alloc_new w1 _) (by rw [dotB_len]; exact Nat.le_refl _) (by decide) (dotB_len n s) (List.take_length), fun a e => by cases e; exact hc.size, hc.alloc _⟩
theorem Fresh.no {w w1 : World} (hc : Chg [] w w1) : Fresh w w1 none 0 [] := ⟨OwnB.none_ _, by simp, hc⟩

set_option maxHeartbeats 1000000 in
theorem dbytes_any (w : World) (n s : Int) :
    Calls Tryd.prog 22 #[.agg #[.int .i64 n, .int .i64 s]] w fun e w' => ∃ A c, e = .returned (.tuple #[.slice A (dotO n s).length c, .int .i64 (chkD n s)]) ∧ Fresh w w' A c (dotO n s) := by
  have C := Lib.hid (Chg.refl [] w)
  obtain ⟨w1, hw1, cw1, b_B0⟩ := news1 w (.cells #[.int .i64 n, .int .i64 s] 23)
  have Ww1 := Lib.hid hw1
  have l_B0 := lt_of_heap b_B0
  replace C := Lib.hid (C.out.trans cw1)
  have B0 := Lib.hid (b_B0)
  clear hw1 cw1 b_B0
  by_cases h : FineD n s
  · have hk := chkD_fine h
    rw [dotO_fine h, hk]
    have CL := Lib.hid (dotB_cells h)
    clear h
    go_enter Tryd.func22, Tryd.ntmps22
    go_wp2_with fail
    rw [← Ww1.out]
    generalize w.heap.size = s0 at *
    clear Ww1
    have r1 := dcheck_any w1 n s
    rw [hk] at r1
    refine (r1).mono ?_
    rintro e w2 ⟨rfl, ca⟩
    replace B0 := Lib.hid (ca.at_ B0.out (by simp))
    replace C := Lib.hid (C.out.trans ca)
    clear ca
    have z_B0_0 := cell_of B0.out 0
    have z_B0_1 := cell_of B0.out 1
    simp only [List.getElem?_toArray, List.getElem?_cons_succ, List.getElem?_cons_zero] at z_B0_0 z_B0_1
    go_wp2_with fail
    go_ret2
    exact ⟨some ⟨_, 0, none⟩, 5, by rw [dotB_len]; rfl, Fresh.five (C.out) CL.out⟩
  · have hk := chkD_odd h
    rw [dotO_odd h, hk]
    clear h
    go_enter Tryd.func22, Tryd.ntmps22
    go_wp2_with fail
    rw [← Ww1.out]
    generalize w.heap.size = s0 at *
    clear Ww1
    have r1 := dcheck_any w1 n s
    rw [hk] at r1
    refine (r1).mono ?_
    rintro e w2 ⟨rfl, ca⟩
    replace B0 := Lib.hid (ca.at_ B0.out (by simp))
    replace C := Lib.hid (C.out.trans ca)
    clear ca
    go_wp2_with fail
    go_ret2
    exact ⟨none, 0, rfl, Fresh.no C.out⟩

set_option maxHeartbeats 1000000 in
theorem hbytes_any (w : World) (n s : Int) :
    Calls Tryd.prog 23 #[.agg #[.int .i64 n, .int .i64 s]] w fun e w' => ∃ A c, e = .returned (.tuple #[.slice A (dotO n s).length c, .int .i64 (chkD n s)]) ∧ Fresh w w' A c (dotO n s) := by
  have C := Lib.hid (Chg.refl [] w)
  obtain ⟨w1, hw1, cw1, b_B0⟩ := news1 w (.cells #[.int .i64 n, .int .i64 s] 23)
  have Ww1 := Lib.hid hw1
  have l_B0 := lt_of_heap b_B0
  replace C := Lib.hid (C.out.trans cw1)
  have B0 := Lib.hid (b_B0)
  clear hw1 cw1 b_B0
  by_cases h : FineD n s
  · have hk := chkD_fine h
    rw [dotO_fine h, hk]
    have CL := Lib.hid (dotB_cells h)
    clear h
    go_enter Tryd.func23, Tryd.ntmps23
    go_wp2_with fail
    rw [← Ww1.out]
    generalize w.heap.size = s0 at *
    clear Ww1
    have r1 := hcheck_any w1 n s
    rw [hk] at r1
    refine (r1).mono ?_
    rintro e w2 ⟨rfl, ca⟩
    replace B0 := Lib.hid (ca.at_ B0.out (by simp))
    replace C := Lib.hid (C.out.trans ca)
    clear ca
    have z_B0_0 := cell_of B0.out 0
    have z_B0_1 := cell_of B0.out 1
    simp only [List.getElem?_toArray, List.getElem?_cons_succ, List.getElem?_cons_zero] at z_B0_0 z_B0_1
    go_wp2_with fail
    go_ret2
    exact ⟨some ⟨_, 0, none⟩, 5, by rw [dotB_len]; rfl, Fresh.five (C.out) CL.out⟩
  · have hk := chkD_odd h
    rw [dotO_odd h, hk]
    clear h
    go_enter Tryd.func23, Tryd.ntmps23
    go_wp2_with fail
    rw [← Ww1.out]
    generalize w.heap.size = s0 at *
    clear Ww1
    have r1 := hcheck_any w1 n s
    rw [hk] at r1
    refine (r1).mono ?_
    rintro e w2 ⟨rfl, ca⟩
    replace B0 := Lib.hid (ca.at_ B0.out (by simp))
    replace C := Lib.hid (C.out.trans ca)
    clear ca
    go_wp2_with fail
    go_ret2
    exact ⟨none, 0, rfl, Fresh.no C.out⟩
end Go.Proofs.YtmcnfopiilplnaaDoor
