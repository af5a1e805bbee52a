/- The walk of WireNone. -/
import Derived.Test.YtknhgicpndgdoaaDead2
import Derived.Test.YtknhgicpndgdoaaAwake
import Derived.Deep.RegionHeld3
namespace Go.Proofs.Ytknhgicpndgdoaa
open Go.RowKit

theorem Chg.cell0 {w w' : World} {a : Addr} {u : Value} (hc : Chg [] w w') (h : w.cell? a = some u) : w'.cell? a = some u := hc.cell h (by simp)
theorem alloc_at (w : World) (o : Obj) (n : Nat) (h : n = w.heap.size) : (w.alloc o).heap[n]? = some o := by
  subst h
  exact heap_alloc_new w o

/-- The rows of writers and of readers, and the fault of what is none. -/
theorem none_setup (w : World) : ∃ w8 : World, w8 = (((((w.alloc (.cells #[.pointer none, .slice none 0 0, .int .i64 0] 57)).alloc (.cells #[.pointer none, .pointer (some ⟨w.heap.size, 0, none⟩)] 23)).alloc (.cells #[.pointer none, .slice none 0 0, .int .i64 0, .int .i64 0, .int .i64 0] 60)).alloc
      (.cells #[.pointer none, .pointer (some ⟨w.heap.size + 1 + 1, 0, none⟩)] 42)).alloc (.cells #[.int .i64 1, .int .i64 0] 51)) ∧ Chg [] w w8 ∧
      (∀ j, j < 2 → ∃ v, w8.cell? ⟨w.heap.size + 1, j, none⟩ = some v ∧ DeadW w8 v) ∧ (∀ j, j < 2 → ∃ v, w8.cell? ⟨w.heap.size + 1 + 1 + 1, j, none⟩ = some v ∧ DeadR w8 v) ∧
      w8.heap[w.heap.size + 1 + 1 + 1 + 1]? = some (.cells #[.int .i64 1, .int .i64 0] 51 (0, 0)) := by
  refine ⟨_, rfl, ((((((Chg.refl [] w).alloc _).alloc _).alloc _).alloc _).alloc _), fun j hj => ?_, fun j hj => ?_, alloc_at _ _ _ (by simp)⟩
  · have r1 := (((Chg.refl [] _).alloc (.cells #[.pointer none, .slice none 0 0, .int .i64 0, .int .i64 0, .int .i64 0] 60)).alloc (.cells #[.pointer none, .pointer (some ⟨w.heap.size + 1 + 1, 0, none⟩)] 42)).alloc (.cells #[.int .i64 1, .int .i64 0] 51) |>.at_ (alloc_at (w.alloc (.cells #[.pointer none, .slice none 0 0, .int .i64 0] 57)) (.cells #[.pointer none, .pointer (some ⟨w.heap.size, 0, none⟩)] 23) (w.heap.size + 1) (by simp)) (by simp)
    have r0 := (((Chg.refl [] _).alloc (.cells #[.pointer none, .pointer (some ⟨w.heap.size, 0, none⟩)] 23)).alloc (.cells #[.pointer none, .slice none 0 0, .int .i64 0, .int .i64 0, .int .i64 0] 60)).alloc (.cells #[.pointer none, .pointer (some ⟨w.heap.size + 1 + 1, 0, none⟩)] 42) |>.alloc (.cells #[.int .i64 1, .int .i64 0] 51) |>.at_ (heap_alloc_new w (.cells #[.pointer none, .slice none 0 0, .int .i64 0] 57)) (by simp)
    match j, hj with
    | 0, _ => exact ⟨_, cell_of r1 0, .inl rfl⟩
    | 1, _ => exact ⟨_, cell_of r1 1, .inr ⟨_, rfl, r0⟩⟩
  · have r1 := (Chg.refl [] _).alloc (.cells #[.int .i64 1, .int .i64 0] 51) |>.at_ (alloc_at (((w.alloc (.cells #[.pointer none, .slice none 0 0, .int .i64 0] 57)).alloc (.cells #[.pointer none, .pointer (some ⟨w.heap.size, 0, none⟩)] 23)).alloc (.cells #[.pointer none, .slice none 0 0, .int .i64 0, .int .i64 0, .int .i64 0] 60)) (.cells #[.pointer none, .pointer (some ⟨w.heap.size + 1 + 1, 0, none⟩)] 42) (w.heap.size + 1 + 1 + 1) (by simp)) (by simp)
    have r0 := ((Chg.refl [] _).alloc (.cells #[.pointer none, .pointer (some ⟨w.heap.size + 1 + 1, 0, none⟩)] 42)).alloc (.cells #[.int .i64 1, .int .i64 0] 51) |>.at_ (alloc_at ((w.alloc (.cells #[.pointer none, .slice none 0 0, .int .i64 0] 57)).alloc (.cells #[.pointer none, .pointer (some ⟨w.heap.size, 0, none⟩)] 23)) (.cells #[.pointer none, .slice none 0 0, .int .i64 0, .int .i64 0, .int .i64 0] 60) (w.heap.size + 1 + 1) (by simp)) (by simp)
    match j, hj with
    | 0, _ => exact ⟨_, cell_of r1 0, .inl rfl⟩
    | 1, _ => exact ⟨_, cell_of r1 1, .inr ⟨_, rfl, r0⟩⟩

set_option maxRecDepth 20000 in
set_option maxHeartbeats 4000000 in
theorem none_yes (w : World) (x : ActD) (k lo hi : Int) (hb : Bs w x.B x.m x.ys) (hs : x.s.size ≤ 140737488351232) (hm : x.m ≤ 140737488351232) (hn1 : -9223372036854775808 ≤ x.n) (hn2 : x.n ≤ 9223372036854775807) :
    Calls Try.prog 5 #[.agg #[.int .i64 x.kind, .int .i64 x.n, .string x.s, .slice x.B x.m x.d], .agg #[.int .i64 k, .int .i64 lo, .int .i64 hi]] w fun r w' => r = .returned (.bool true) ∧ Chg [] w w' := by
  have HB := Lib.hid hb
  clear hb
  go_enter Try.func5, Try.ntmps5
  go_wp2_with fail
  have hset : ∃ w3 : World, w3 = (((w.alloc (.cells #[.int .i64 x.kind, .int .i64 x.n, .string x.s, .slice x.B x.m x.d] 34)).alloc (.cells #[.int .i64 k, .int .i64 lo, .int .i64 hi] 48)).alloc (.cells #[.int .i64 x.kind, .int .i64 x.n, .string x.s, .slice x.B x.m x.d] 34)) := ⟨_, rfl⟩
  obtain ⟨w3, hw3⟩ := hset
  have c3 : Chg [] w w3 := hw3 ▸ (((Chg.refl [] w).alloc _).alloc _).alloc _
  have q0 : w3.heap[w.heap.size]? = some (.cells #[.int .i64 x.kind, .int .i64 x.n, .string x.s, .slice x.B x.m x.d] 34 (0, 0)) := hw3 ▸ (((Chg.refl [] _).alloc _).alloc _).at_ (heap_alloc_new w _) (by simp)
  have q1 : w3.heap[w.heap.size + 1]? = some (.cells #[.int .i64 k, .int .i64 lo, .int .i64 hi] 48 (0, 0)) := hw3 ▸ ((Chg.refl [] _).alloc _).at_ (heap_alloc_two w _ _) (by simp)
  have q2 : w3.heap[w.heap.size + 1 + 1]? = some (.cells #[.int .i64 x.kind, .int .i64 x.n, .string x.s, .slice x.B x.m x.d] 34 (0, 0)) := by
    have := heap_alloc_new ((w.alloc (.cells #[.int .i64 x.kind, .int .i64 x.n, .string x.s, .slice x.B x.m x.d] 34)).alloc (.cells #[.int .i64 k, .int .i64 lo, .int .i64 hi] 48)) (.cells #[.int .i64 x.kind, .int .i64 x.n, .string x.s, .slice x.B x.m x.d] 34)
    rw [World.size_alloc, World.size_alloc] at this
    exact hw3 ▸ this
  have hacts : Acts w3 (some ⟨w.heap.size + 1 + 1, 0, none⟩) 1 [x] := ⟨rfl, fun j a hj => by
    cases j with
    | zero =>
      cases hj
      exact ⟨_, 0, rfl, cell_of q2 0, cell_of q2 1, cell_of q2 2, cell_of q2 3, HB.out.chg c3 (by simp), hs, hm, hn1, hn2⟩
    | succ j => simp at hj⟩
  have k0 := cell_of q0 0
  have k1 := cell_of q0 1
  have k2 := cell_of q0 2
  have k3 := cell_of q0 3
  have k4 := cell_of q1 0
  have k5 := cell_of q1 1
  have k6 := cell_of q1 2
  simp only [List.getElem?_toArray, List.getElem?_cons_succ, List.getElem?_cons_zero] at k0 k1 k2 k3 k4 k5 k6
  have HA := Lib.hid hacts
  have C3 := Lib.hid c3
  have l0 := lt_of_heap q0
  have l1 := lt_of_heap q1
  clear hacts c3 q0 q1 q2
  have e0 : w.heap.size ≤ w.heap.size := Nat.le_refl _
  rw [← hw3]
  generalize ha1 : w.heap.size + 1 = a1 at *
  generalize ha0 : w.heap.size = a0 at *
  clear hw3
  refine (long_any w3 _ 1 1 [x] HA.out (by decide)).mono ?_
  rintro r w4 ⟨rfl, rfl⟩
  by_cases hl : longs [x] = true
  · rw [hl]
    go_wp2_with fail
    refine (awake_yes _).mono ?_
    rintro r w4 ⟨rfl, c4⟩
    go_wp2
    go_ret
    exact ⟨rfl, C3.out.trans c4⟩
  have hl' : longs [x] = false := by simpa using hl
  rw [hl']
  clear hl hl' HA
  go_wp2
  obtain ⟨w8, hw8⟩ := none_setup w3
  obtain ⟨hw8, c8, d1, d2, d3⟩ := hw8
  rw [← hw8]
  have k0 := c8.cell0 k0
  have k1 := c8.cell0 k1
  have k2 := c8.cell0 k2
  have k3 := c8.cell0 k3
  have k4 := c8.cell0 k4
  have k5 := c8.cell0 k5
  have k6 := c8.cell0 k6
  have g0 := cell_of d3 0
  have g1 := cell_of d3 1
  simp only [List.getElem?_toArray, List.getElem?_cons_succ, List.getElem?_cons_zero] at g0 g1
  have C8 := Lib.hid (C3.out.trans c8)
  have HB8 := Lib.hid (HB.out.chg C8.out (by simp))
  have D1 := Lib.hid d1
  have D2 := Lib.hid d2
  clear d1 d2 d3 c8 hw8 C3 HB ha1 ha0 e0 l0 l1 hn1 hn2
  generalize w3.heap.size + 1 + 1 + 1 + 1 = s4 at *
  generalize w3.heap.size + 1 + 1 + 1 = s3 at *
  generalize w3.heap.size + 1 = s1 at *
  go_loopw [8] (fun i wr => ∃ j : Nat, j ≤ 2 ∧ i = .int .i64 j ∧ Chg [] w8 wr) (fun i _ => 2 - (intOf i).toNat)
  case atStart => exact ⟨0, by omega, rfl, Chg.refl _ _⟩
  case round =>
    obtain ⟨j, hj, rfl, hC⟩ := hrel
    by_cases hlt : j < 2
    · obtain ⟨vw, m0, dw⟩ := D1.out j hlt
      obtain ⟨vr, n0, dr⟩ := D2.out j hlt
      have m0 := hC.cell0 m0
      have n0 := hC.cell0 n0
      have k0 := hC.cell0 k0
      have k1 := hC.cell0 k1
      have k2 := hC.cell0 k2
      have k3 := hC.cell0 k3
      have k4 := hC.cell0 k4
      have k5 := hC.cell0 k5
      have k6 := hC.cell0 k6
      have g0 := hC.cell0 g0
      have g1 := hC.cell0 g1
      have DW := Lib.hid (fun (w' : World) (hc : Chg [] w8 w') => dw.chg hc (by simp))
      have DR := Lib.hid (fun (w' : World) (hc : Chg [] w8 w') => dr.chg hc (by simp))
      have HC := Lib.hid hC
      have HCd := Lib.hid hC.drew
      clear hC dw dr
      go_wp2
      go_region_held3 (fun w' => w'.cell? ⟨s1, j, none⟩ = some vw ∧ w'.cell? ⟨a0, 0, none⟩ = some (.int .i64 x.kind) ∧ w'.cell? ⟨a0, 1, none⟩ = some (.int .i64 x.n) ∧ w'.cell? ⟨a0, 2, none⟩ = some (.string x.s) ∧ w'.cell? ⟨a0, 3, none⟩ = some (.slice x.B x.m x.d)) (first | go_keep | exact ⟨t0, t1, t2, t3, t4⟩)
        ((go_at_call 12; refine (write_dead _ vw x.kind x.n x.s x.B x.m x.d x.ys (DW.out _ HCd.out) hm (HB8.out.chg HCd.out (fun _ _ => List.not_mem_nil))).mono ?_; rintro e w9 ⟨rfl, hc⟩; have t0 := hc.cell0 m0; have t1 := hc.cell0 k0; have t2 := hc.cell0 k1; have t3 := hc.cell0 k2; have t4 := hc.cell0 k3; have c9 := HCd.out.trans hc; have C9 := Lib.hid hc; have HC9 := Lib.hid c9; clear hc c9))
      have c9 := C9.out
      have n0 := c9.cell0 n0
      have k4 := c9.cell0 k4
      have k5 := c9.cell0 k5
      have k6 := c9.cell0 k6
      have g0 := c9.cell0 g0
      have g1 := c9.cell0 g1
      clear c9 m0 k0 k1 k2 k3 t1 t2 t3 t4 HC HCd C9
      go_wp2_with fail
      refine (wout_dead w9 vw (DW.out _ HC9.out)).mono ?_
      rintro r w10 ⟨rfl, rfl⟩
      clear t0
      have HCa := Lib.hid HC9.out.drew
      go_wp2
      go_region_held3 (fun w' => w'.cell? ⟨s3, j, none⟩ = some vr ∧ w'.cell? ⟨a1, 1, none⟩ = some (.int .i64 lo) ∧ w'.cell? ⟨a1, 2, none⟩ = some (.int .i64 hi)) (first | go_keep | exact ⟨n0, k5, k6⟩)
        ((go_at_call 29; refine (rnum_dead _ vr lo hi (DR.out _ HCa.out)).mono ?_; rintro e w10 ⟨rfl, rfl⟩))
      go_wp2
      have HCb := Lib.hid HCa.out.drew
      go_region_held3 (fun w' => w'.cell? ⟨s3, j, none⟩ = some vr ∧ w'.cell? ⟨a1, 1, none⟩ = some (.int .i64 lo) ∧ w'.cell? ⟨a1, 2, none⟩ = some (.int .i64 hi)) (first | go_keep | exact ⟨n0, k5, k6⟩)
        ((go_at_call 30; refine (rtext_dead _ vr hi (DR.out _ HCb.out)).mono ?_; rintro e w10 ⟨rfl, rfl⟩))
      go_wp2
      have HCc := Lib.hid HCb.out.drew
      go_region_held3 (fun w' => w'.cell? ⟨s3, j, none⟩ = some vr ∧ w'.cell? ⟨a1, 1, none⟩ = some (.int .i64 lo) ∧ w'.cell? ⟨a1, 2, none⟩ = some (.int .i64 hi)) (first | go_keep | exact ⟨t0, t1, t2⟩)
        ((go_at_call 31; refine (rraw_dead _ vr hi (DR.out _ HCc.out)).mono ?_; rintro e w11 ⟨⟨A11, c11, rfl⟩, hc⟩; have t0 := hc.cell0 n0; have t1 := hc.cell0 k5; have t2 := hc.cell0 k6; have t3 := hc.cell0 g0; have t4 := hc.cell0 g1; have c11' := HCc.out.trans hc; have HCe := Lib.hid c11'.drew; clear c11' hc))
      clear n0 k4 k5 k6 g0 g1 HCa HCb HCc
      go_wp2
      go_region_held3 (fun w' => w'.cell? ⟨s3, j, none⟩ = some vr ∧ w'.cell? ⟨s4, 0, none⟩ = some (.int .i64 1) ∧ w'.cell? ⟨s4, 1, none⟩ = some (.int .i64 0)) (first | go_keep | exact ⟨t0, t3, t4⟩)
        ((first
          | (go_at_call 22; refine (rat_dead _ vr (DR.out _ HCe.out)).mono ?_; rintro e w12 ⟨rfl, rfl⟩)
          | (go_at_call 23; refine (rleft_dead _ vr (DR.out _ HCe.out)).mono ?_; rintro e w12 ⟨rfl, rfl⟩)
          | (go_at_call 25; refine (rfault_dead _ vr (DR.out _ HCe.out)).mono ?_; rintro e w12 ⟨rfl, hc⟩; have t0 := hc.cell0 t0; have t3 := hc.cell0 t3; have t4 := hc.cell0 t4; have HCe := Lib.hid (HCe.out.trans hc); clear hc)
          | (go_at_call 26; refine (rend_dead _ vr (DR.out _ HCe.out)).mono ?_; rintro e w12 ⟨rfl, hc⟩; have t0 := hc.cell0 t0; have t3 := hc.cell0 t3; have t4 := hc.cell0 t4; have HCe := Lib.hid (HCe.out.trans hc); clear hc)))
      all_goals
        go_wp2
        exact ⟨⟨j + 1, by omega, by go_num, HCe.out⟩, by simp [intOf]; omega⟩
    · clear k0 k1 k2 k3 k4 k5 k6 g0 g1
      have HC := Lib.hid hC
      clear hC
      go_wp2_with fail
      refine (awake_yes wr).mono ?_
      rintro r w9 ⟨rfl, c9⟩
      have C9 := Lib.hid ((C8.out.trans HC.out).trans c9)
      clear c9
      go_wp2
      go_ret
      exact ⟨rfl, C9.out⟩
end Go.Proofs.Ytknhgicpndgdoaa
