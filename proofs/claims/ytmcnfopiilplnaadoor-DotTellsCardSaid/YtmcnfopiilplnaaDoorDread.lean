/- Package dot: Read; the document's. -/
import Derived.Test.YtmcnfopiilplnaaDoorDbytes
import Derived.Test.YtmcnfopiilplnaaDoorPuts
import Derived.Deep.RegionHeld3
namespace Go.Proofs.YtmcnfopiilplnaaDoor
open Go.RowKit
set_option linter.unusedSimpArgs false
set_option linter.unusedVariables false

theorem Chg.c0_ {w w' : World} {a : Addr} {u : Value} (hc : Chg [] w w') (h : w.cell? a = some u) : w'.cell? a = some u := hc.cell h (by simp)
theorem Bs.cells5 {w : World} {A : Option Addr} {n : Nat} {a b c d e : UInt8} (h : Bs w A n [a, b, c, d, e]) : ∃ g o, A = some ⟨g, o, none⟩ ∧ n = 5 ∧ g < w.heap.size ∧ w.cell? ⟨g, o, none⟩ = some (.int .u8 (a.toNat : Int)) ∧ w.cell? ⟨g, o + 1, none⟩ = some (.int .u8 (b.toNat : Int)) ∧ w.cell? ⟨g, o + 2, none⟩ = some (.int .u8 (c.toNat : Int)) ∧ w.cell? ⟨g, o + 3, none⟩ = some (.int .u8 (d.toNat : Int)) ∧ w.cell? ⟨g, o + 4, none⟩ = some (.int .u8 (e.toNat : Int)) := by
  have hl := h.len
  obtain ⟨ad, rfl, hc⟩ := h.cells 0 _ rfl
  have hsp := World.cell?_spot hc
  obtain ⟨g, o, sp⟩ := ad
  have hsp : sp = none := by simpa [Addr.add] using hsp
  subst hsp
  have hg := lt_of_cell hc
  rw [block_add] at hg
  refine ⟨g, o, rfl, hl.symm, hg, ?_, ?_, ?_, ?_, ?_⟩
  · rw [add_lit] at hc; exact hc
  · obtain ⟨a', e', hc⟩ := h.cells 1 _ rfl; cases e'; rw [add_lit] at hc; exact hc
  · obtain ⟨a', e', hc⟩ := h.cells 2 _ rfl; cases e'; rw [add_lit] at hc; exact hc
  · obtain ⟨a', e', hc⟩ := h.cells 3 _ rfl; cases e'; rw [add_lit] at hc; exact hc
  · obtain ⟨a', e', hc⟩ := h.cells 4 _ rfl; cases e'; rw [add_lit] at hc; exact hc

/-- The number of four bytes. -/
def val4 (b c d e : UInt8) : Int := (b.toNat * 16777216 + c.toNat * 65536 + d.toNat * 256 + e.toNat : Nat)
/-- What bytes are read as: a dot, and what is wrong. -/
def readD : List UInt8 → (Int × Int) × (Int × Int)
  | [a, b, c, d, e] => if FineD a.toNat (val4 b c d e) then ((a.toNat, val4 b c d e), (0, 0)) else ((0, 0), (2, 0))
  | xs => ((0, 0), (4, if 5 < (xs.length : Int) then 5 else (xs.length : Int)))
theorem readD_odd {xs : List UInt8} (h : xs.length ≠ 5) : readD xs = ((0, 0), (4, if 5 < (xs.length : Int) then 5 else (xs.length : Int))) := by
  unfold readD
  split
  · exact absurd rfl h
  · rfl

theorem or8_i64 (a b : Nat) (hb : b < 256) (h : a < 4294967296) : bits .or .i64 ((a : Int) * 256) (b : Int) = (a : Int) * 256 + (b : Int) := by
  have h1 : (BitVec.ofInt 64 ((a * 256 : Nat) : Int)).toNat = a * 256 := by
    rw [BitVec.ofInt_natCast, BitVec.toNat_ofNat]; exact Nat.mod_eq_of_lt (by omega)
  have h2 : (BitVec.ofInt 64 (b : Int)).toNat = b := by
    rw [BitVec.ofInt_natCast, BitVec.toNat_ofNat]; exact Nat.mod_eq_of_lt (by omega)
  have hj : a * 256 ||| b = a * 256 + b := by
    have := Nat.shiftLeft_add_eq_or_of_lt (b := b) (i := 8) (by omega) a
    rw [Nat.shiftLeft_eq] at this
    exact this.symm
  rw [show (a : Int) * 256 = ((a * 256 : Nat) : Int) by omega]
  show IntKind.i64.wrap ((BitVec.ofInt 64 ((a * 256 : Nat) : Int) ||| BitVec.ofInt 64 (b : Int)).toNat : Int) = _
  rw [BitVec.toNat_or, h1, h2, hj, IntWalk.i64_in _ (by omega)]
  omega

set_option maxHeartbeats 1000000 in
theorem dread_odd (w : World) (A : Option Addr) (n c : Nat) (xs : List UInt8) (h : Bs w A n xs) (hn : n ≤ 140737488351232) (h5 : xs.length ≠ 5) :
    Calls Tryd.prog 24 #[.slice A n c] w fun e w' => e = .returned (.tuple #[.agg #[.int .i64 (readD xs).1.1, .int .i64 (readD xs).1.2], .agg #[.int .i64 (readD xs).2.1, .int .i64 (readD xs).2.2]]) ∧ Chg [] w w' := by
  rw [readD_odd h5]
  have hl := h.len
  subst hl
  have hb : ((xs.length : Int) == 5) = false := by simp; omega
  clear h h5
  refine (Decidable.em (5 < (xs.length : Int))).elim (fun h1 => ?P1) (fun h1 => ?P0)
  case P1 =>
    rw [if_pos h1]
    go_enter Tryd.func24, Tryd.ntmps24
    go_wp2
    exact bodyPost_ret (v := .tuple #[.agg #[.int .i64 0, .int .i64 0], .agg #[.int .i64 4, .int .i64 5]]) (by simp [results, Tryd.results24, go_sem]) rfl ⟨rfl, ((Chg.refl _ _).alloc _).alloc _⟩
  case P0 =>
    rw [if_neg h1]
    have h2 : (xs.length : Int) ≤ 5 := by omega
    clear h1
    go_enter Tryd.func24, Tryd.ntmps24
    go_wp2
    exact bodyPost_ret (v := .tuple #[.agg #[.int .i64 0, .int .i64 0], .agg #[.int .i64 4, .int .i64 xs.length]]) (by simp [results, Tryd.results24, go_sem]) rfl ⟨rfl, ((Chg.refl _ _).alloc _).alloc _⟩
/-- Five cells of bytes. -/
structure Five (w : World) (g o : Nat) (x0 x1 x2 x3 x4 : Nat) : Prop where
  k0 : w.cell? ⟨g, o, none⟩ = some (.int .u8 (x0 : Int))
  k1 : w.cell? ⟨g, o + 1, none⟩ = some (.int .u8 (x1 : Int))
  k2 : w.cell? ⟨g, o + 2, none⟩ = some (.int .u8 (x2 : Int))
  k3 : w.cell? ⟨g, o + 3, none⟩ = some (.int .u8 (x3 : Int))
  k4 : w.cell? ⟨g, o + 4, none⟩ = some (.int .u8 (x4 : Int))
def V4 (x1 x2 x3 x4 : Nat) : Int := (((x1 : Int) * 256 + x2) * 256 + x3) * 256 + x4
theorem val4_eq (b c d e : UInt8) : val4 b c d e = V4 b.toNat c.toNat d.toNat e.toNat := by unfold val4 V4; omega
set_option maxHeartbeats 1000000 in
theorem dread_cells (w : World) (g o k x0 x1 x2 x3 x4 : Nat) (h : Five w g o x0 x1 x2 x3 x4) (ha : x0 < 256) (hb : x1 < 256) (hc : x2 < 256) (hd : x3 < 256) (he : x4 < 256) (hk : 5 ≤ k) (hk2 : k ≤ 9223372036854775807) (rn rs re : Int)
    (hr : (FineD x0 (V4 x1 x2 x3 x4) ∧ rn = x0 ∧ rs = V4 x1 x2 x3 x4 ∧ re = 0) ∨ (¬ FineD x0 (V4 x1 x2 x3 x4) ∧ rn = 0 ∧ rs = 0 ∧ re = 2)) :
    Calls Tryd.prog 24 #[.slice (some ⟨g, o, none⟩) 5 k] w fun r w' => r = .returned (.tuple #[.agg #[.int .i64 rn, .int .i64 rs], .agg #[.int .i64 re, .int .i64 0]]) ∧ Chg [] w w' := by
  have old : ∀ (p : Addr) v, w.cell? p = some v → ∀ o1 o2 o3, (((w.alloc o1).alloc o2).alloc o3).cell? p = some v := fun p v h o1 o2 o3 => ((((Chg.refl [] w).alloc o1).alloc o2).alloc o3).cell h (by simp)
  have q0 := h.k0
  have hg := lt_of_cell q0
  simp only at hg
  have q1 := old _ _ h.k1
  have q2 := old _ _ h.k2
  have q3 := old _ _ h.k3
  have q4 := old _ _ h.k4
  clear old h
  have e1 : bits .or .i64 0 (x1 : Int) = (x1 : Int) := by have := or8_i64 0 x1 (by omega) (by omega); simpa using this
  have e2 : bits .or .i64 ((x1 : Int) * 256) (x2 : Int) = (x1 : Int) * 256 + x2 := or8_i64 x1 x2 (by omega) (by omega)
  have e3 : bits .or .i64 (((x1 : Int) * 256 + x2) * 256) (x3 : Int) = ((x1 : Int) * 256 + x2) * 256 + x3 := or8_i64 (x1 * 256 + x2) x3 (by omega) (by omega)
  have e4 : bits .or .i64 ((((x1 : Int) * 256 + x2) * 256 + x3) * 256) (x4 : Int) = V4 x1 x2 x3 x4 := or8_i64 ((x1 * 256 + x2) * 256 + x3) x4 (by omega) (by omega)
  generalize V4 x1 x2 x3 x4 = V at *
  have HR := Lib.hid hr
  have hck := fun w => dcheck_any w x0 V
  generalize hE : chkD x0 V = E at *
  have hE2 := Lib.hid hE
  have HCK := Lib.hid hck
  clear hr hck hE
  go_enter Tryd.func24, Tryd.ntmps24
  go_wp2
  refine wp_loop_rounds 5 ?_
  rw [rounds_succ]
  go_wp2
  rw [rounds_succ]
  go_wp2
  rw [rounds_succ]
  go_wp2
  rw [rounds_succ]
  go_wp2
  rw [rounds_succ]
  go_wp2_with fail
  clear e1 e2 e3 e4 q0 q1 q2 q3 q4
  obtain ⟨w1, hw1, c1, b0, b1, b2⟩ := news3 w (.cells #[.int .i64 0, .int .i64 0] 23) (.cells #[.int .i64 0, .int .i64 0] 40) (.cells #[.int .i64 x0, .int .i64 V] 23)
  rw [← hw1]
  clear hw1
  have l1 : w.heap.size ≤ w.heap.size + 1 := by omega
  have l2 : ¬ w.heap.size = w.heap.size + 1 := by omega
  have hs3 : w.heap.size + 1 + 1 = w.heap.size + 2 := rfl
  rw [hs3]
  have L0 := Lib.hid (fun (w' : World) (j : Nat) (v : Value) (h : Chg [] w w') => h.put (s := w.heap.size) (Nat.le_refl _) j v)
  have L1 := Lib.hid (fun (w' : World) (j : Nat) (v : Value) (h : Chg [] w w') => h.put (s := w.heap.size + 1) (Nat.le_succ _) j v)
  clear hs3 l1
  generalize w.heap.size + 2 = s2 at *
  generalize w.heap.size + 1 = s1 at *
  generalize w.heap.size = s0 at *
  refine (HCK.out w1).mono ?_
  rintro e w2 ⟨rfl, c2⟩
  have C2 := Lib.hid (c1.trans c2)
  have q0 := c2.at_ b0 (by simp)
  have q1 := c2.at_ b1 (by simp)
  have q2 := c2.at_ b2 (by simp)
  clear c1 c2 b0 b1 b2 HCK
  rcases HR.out with ⟨hf, rfl, rfl, rfl⟩ | ⟨hf, rfl, rfl, rfl⟩
  · have := hE2.out
    rw [chkD_fine hf] at this
    subst this
    clear hE2 HR hf
    have z0 := cell_of q0 0
    have fz0 := free_of q0 0
    have z1 := cell_of q0 1
    have fz1 := free_of q0 1
    have y0 := cell_of q1 0
    have fy0 := free_of q1 0
    have y1 := cell_of q1 1
    have fy1 := free_of q1 1
    have t0 := cell_of q2 0
    have t1 := cell_of q2 1
    simp only [List.getElem?_toArray, List.getElem?_cons_succ, List.getElem?_cons_zero] at z0 z1 y0 y1
    simp only [List.getElem?_toArray, List.getElem?_cons_succ, List.getElem?_cons_zero] at t0 t1
    have HPP := Lib.hid (put2_2 (.int .i64 x0) (.int .i64 rs) (.int .i64 0) (.int .i64 0) q0 q1 l2)
    have CW := Lib.hid (L1.out _ 1 (.int .i64 0) (L1.out _ 0 (.int .i64 0) (L0.out _ 1 (.int .i64 rs) (L0.out _ 0 (.int .i64 x0) C2.out))))
    clear q0 q1 q2
    go_wp2
    generalize ((((w2.setCell ⟨s0, 0, none⟩ (.int .i64 x0)).setCell ⟨s0, 1, none⟩ (.int .i64 rs)).setCell ⟨s1, 0, none⟩ (.int .i64 0)).setCell ⟨s1, 1, none⟩ (.int .i64 0)) = W at *
    clear z0 z1 y0 y1 fz0 fz1 fy0 fy1
    have z0 := cell_of HPP.out.1 0
    have z1 := cell_of HPP.out.1 1
    have z2 := cell_of HPP.out.2 0
    have z3 := cell_of HPP.out.2 1
    simp only [List.getElem?_toArray, List.getElem?_cons_succ, List.getElem?_cons_zero] at z0 z1 z2 z3
    exact bodyPost_ret (v := .tuple #[.agg #[.int .i64 x0, .int .i64 rs], .agg #[.int .i64 0, .int .i64 0]]) (by simp [results, Tryd.results24, go_sem, z0, z1, z2, z3]) rfl ⟨rfl, CW.out⟩
  · have := hE2.out
    rw [chkD_odd hf] at this
    subst this
    clear hE2 HR hf
    have z0 := cell_of q0 0
    have fz0 := free_of q0 0
    have z1 := cell_of q0 1
    have fz1 := free_of q0 1
    have y0 := cell_of q1 0
    have fy0 := free_of q1 0
    have y1 := cell_of q1 1
    have fy1 := free_of q1 1
    simp only [List.getElem?_toArray, List.getElem?_cons_succ, List.getElem?_cons_zero] at z0 z1 y0 y1
    have HPP := Lib.hid (put2_2 (.int .i64 0) (.int .i64 0) (.int .i64 2) (.int .i64 0) q0 q1 l2)
    have CW := Lib.hid (L1.out _ 1 (.int .i64 0) (L1.out _ 0 (.int .i64 2) (L0.out _ 1 (.int .i64 0) (L0.out _ 0 (.int .i64 0) C2.out))))
    clear q0 q1 q2
    go_wp2
    generalize ((((w2.setCell ⟨s0, 0, none⟩ (.int .i64 0)).setCell ⟨s0, 1, none⟩ (.int .i64 0)).setCell ⟨s1, 0, none⟩ (.int .i64 2)).setCell ⟨s1, 1, none⟩ (.int .i64 0)) = W at *
    clear z0 z1 y0 y1 fz0 fz1 fy0 fy1
    have z0 := cell_of HPP.out.1 0
    have z1 := cell_of HPP.out.1 1
    have z2 := cell_of HPP.out.2 0
    have z3 := cell_of HPP.out.2 1
    simp only [List.getElem?_toArray, List.getElem?_cons_succ, List.getElem?_cons_zero] at z0 z1 z2 z3
    exact bodyPost_ret (v := .tuple #[.agg #[.int .i64 0, .int .i64 0], .agg #[.int .i64 2, .int .i64 0]]) (by simp [results, Tryd.results24, go_sem, z0, z1, z2, z3]) rfl ⟨rfl, CW.out⟩
theorem dread_any (w : World) (A : Option Addr) (n c : Nat) (xs : List UInt8) (h : Bs w A n xs) (hn : n ≤ 140737488351232) (hk : n ≤ c) (hk2 : c ≤ 9223372036854775807) :
    Calls Tryd.prog 24 #[.slice A n c] w fun e w' => e = .returned (.tuple #[.agg #[.int .i64 (readD xs).1.1, .int .i64 (readD xs).1.2], .agg #[.int .i64 (readD xs).2.1, .int .i64 (readD xs).2.2]]) ∧ Chg [] w w' := by
  by_cases h5 : xs.length = 5
  · obtain ⟨a, b, c', d, e, rfl⟩ : ∃ a b c d e, xs = [a, b, c, d, e] := by
      match xs, h5 with
      | [a, b, c, d, e], _ => exact ⟨a, b, c, d, e, rfl⟩
    obtain ⟨g, o, rfl, rfl, hg, k0, k1, k2, k3, k4⟩ := h.cells5
    have er : readD [a, b, c', d, e] = if FineD a.toNat (val4 b c' d e) then (((a.toNat : Int), val4 b c' d e), ((0 : Int), (0 : Int))) else ((0, 0), (2, 0)) := rfl
    by_cases hf : FineD a.toNat (val4 b c' d e)
    · rw [er, if_pos hf]
      rw [val4_eq] at hf ⊢
      exact dread_cells w g o c _ _ _ _ _ ⟨k0, k1, k2, k3, k4⟩ a.toNat_lt b.toNat_lt c'.toNat_lt d.toNat_lt (UInt8.toNat_lt _) hk hk2 _ _ _ (.inl ⟨hf, rfl, rfl, rfl⟩)
    · rw [er, if_neg hf]
      rw [val4_eq] at hf
      exact dread_cells w g o c _ _ _ _ _ ⟨k0, k1, k2, k3, k4⟩ a.toNat_lt b.toNat_lt c'.toNat_lt d.toNat_lt (UInt8.toNat_lt _) hk hk2 _ _ _ (.inr ⟨hf, rfl, rfl, rfl⟩)
  · exact dread_odd w A n c xs h hn h5
set_option maxHeartbeats 1000000 in
theorem hread_odd (w : World) (A : Option Addr) (n c : Nat) (xs : List UInt8) (h : Bs w A n xs) (hn : n ≤ 140737488351232) (h5 : xs.length ≠ 5) :
    Calls Tryd.prog 25 #[.slice A n c] w fun e w' => e = .returned (.tuple #[.agg #[.int .i64 (readD xs).1.1, .int .i64 (readD xs).1.2], .agg #[.int .i64 (readD xs).2.1, .int .i64 (readD xs).2.2]]) ∧ Chg [] w w' := by
  rw [readD_odd h5]
  have hl := h.len
  subst hl
  have hb : ((xs.length : Int) == 5) = false := by simp; omega
  clear h h5
  refine (Decidable.em (5 < (xs.length : Int))).elim (fun h1 => ?P1) (fun h1 => ?P0)
  case P1 =>
    rw [if_pos h1]
    go_enter Tryd.func25, Tryd.ntmps25
    go_wp2
    exact bodyPost_ret (v := .tuple #[.agg #[.int .i64 0, .int .i64 0], .agg #[.int .i64 4, .int .i64 5]]) (by simp [results, Tryd.results25, go_sem]) rfl ⟨rfl, ((Chg.refl _ _).alloc _).alloc _⟩
  case P0 =>
    rw [if_neg h1]
    have h2 : (xs.length : Int) ≤ 5 := by omega
    clear h1
    go_enter Tryd.func25, Tryd.ntmps25
    go_wp2
    exact bodyPost_ret (v := .tuple #[.agg #[.int .i64 0, .int .i64 0], .agg #[.int .i64 4, .int .i64 xs.length]]) (by simp [results, Tryd.results25, go_sem]) rfl ⟨rfl, ((Chg.refl _ _).alloc _).alloc _⟩
set_option maxHeartbeats 1000000 in
theorem hread_cells (w : World) (g o k x0 x1 x2 x3 x4 : Nat) (h : Five w g o x0 x1 x2 x3 x4) (ha : x0 < 256) (hb : x1 < 256) (hc : x2 < 256) (hd : x3 < 256) (he : x4 < 256) (hk : 5 ≤ k) (hk2 : k ≤ 9223372036854775807) (rn rs re : Int)
    (hr : (FineD x0 (V4 x1 x2 x3 x4) ∧ rn = x0 ∧ rs = V4 x1 x2 x3 x4 ∧ re = 0) ∨ (¬ FineD x0 (V4 x1 x2 x3 x4) ∧ rn = 0 ∧ rs = 0 ∧ re = 2)) :
    Calls Tryd.prog 25 #[.slice (some ⟨g, o, none⟩) 5 k] w fun r w' => r = .returned (.tuple #[.agg #[.int .i64 rn, .int .i64 rs], .agg #[.int .i64 re, .int .i64 0]]) ∧ Chg [] w w' := by
  have old : ∀ (p : Addr) v, w.cell? p = some v → ∀ o1 o2, ((w.alloc o1).alloc o2).cell? p = some v := fun p v h o1 o2 => (((Chg.refl [] w).alloc o1).alloc o2).cell h (by simp)
  have q0 := h.k0
  have hg := lt_of_cell q0
  simp only at hg
  have q1 := old _ _ h.k1
  have q2 := old _ _ h.k2
  have q3 := old _ _ h.k3
  have q4 := old _ _ h.k4
  clear old h
  have e0 : IntKind.i64.wrap (x0 : Int) = (x0 : Int) := IntWalk.i64_in _ (by omega)
  have e1 : IntKind.i64.wrap (x1 : Int) = (x1 : Int) := IntWalk.i64_in _ (by omega)
  have e2 : IntKind.i64.wrap (x2 : Int) = (x2 : Int) := IntWalk.i64_in _ (by omega)
  have e3 : IntKind.i64.wrap (x3 : Int) = (x3 : Int) := IntWalk.i64_in _ (by omega)
  have e4 : IntKind.i64.wrap (x4 : Int) = (x4 : Int) := IntWalk.i64_in _ (by omega)
  have e5 : IntKind.i64.wrap ((x1 : Int) * 16777216) = (x1 : Int) * 16777216 := IntWalk.i64_in _ (by omega)
  have e6 : IntKind.i64.wrap ((x2 : Int) * 65536) = (x2 : Int) * 65536 := IntWalk.i64_in _ (by omega)
  have e7 : IntKind.i64.wrap ((x3 : Int) * 256) = (x3 : Int) * 256 := IntWalk.i64_in _ (by omega)
  have e8 : IntKind.i64.wrap ((x1 : Int) * 16777216 + (x2 : Int) * 65536) = (x1 : Int) * 16777216 + (x2 : Int) * 65536 := IntWalk.i64_in _ (by omega)
  have e9 : IntKind.i64.wrap ((x1 : Int) * 16777216 + (x2 : Int) * 65536 + (x3 : Int) * 256) = (x1 : Int) * 16777216 + (x2 : Int) * 65536 + (x3 : Int) * 256 := IntWalk.i64_in _ (by omega)
  have ea : IntKind.i64.wrap ((x1 : Int) * 16777216 + (x2 : Int) * 65536 + (x3 : Int) * 256 + (x4 : Int)) = V4 x1 x2 x3 x4 := by rw [IntWalk.i64_in _ (by omega)]; unfold V4; omega
  have E0 := Lib.hid e0
  have E1 := Lib.hid e1
  have E2 := Lib.hid e2
  have E3 := Lib.hid e3
  have E4 := Lib.hid e4
  have E5 := Lib.hid e5
  have E6 := Lib.hid e6
  have E7 := Lib.hid e7
  have E8 := Lib.hid e8
  have E9 := Lib.hid e9
  clear e0 e1 e2 e3 e4 e5 e6 e7 e8 e9
  generalize V4 x1 x2 x3 x4 = V at *
  have HR := Lib.hid hr
  have hck := fun w => hcheck_any w x0 V
  generalize hE : chkD x0 V = E at *
  have hE2 := Lib.hid hE
  have HCK := Lib.hid hck
  clear hr hck hE
  go_enter Tryd.func25, Tryd.ntmps25
  go_wp2
  obtain ⟨w1, hw1, c1, b0, b1⟩ := news2 w (.cells #[.int .i64 0, .int .i64 0] 23) (.cells #[.int .i64 0, .int .i64 0] 40)
  have p0 := c1.c0_ q0
  have p1 := q1 (.cells #[.int .i64 0, .int .i64 0] 23) (.cells #[.int .i64 0, .int .i64 0] 40)
  have p2 := q2 (.cells #[.int .i64 0, .int .i64 0] 23) (.cells #[.int .i64 0, .int .i64 0] 40)
  have p3 := q3 (.cells #[.int .i64 0, .int .i64 0] 23) (.cells #[.int .i64 0, .int .i64 0] 40)
  have p4 := q4 (.cells #[.int .i64 0, .int .i64 0] 23) (.cells #[.int .i64 0, .int .i64 0] 40)
  rw [← hw1] at p1 p2 p3 p4 ⊢
  clear hw1 q0 q1 q2 q3 q4
  have l1 : w.heap.size ≤ w.heap.size + 1 := by omega
  have l2 : ¬ w.heap.size = w.heap.size + 1 := by omega
  have L0 := Lib.hid (fun (w' : World) (j : Nat) (v : Value) (h : Chg [] w w') => h.put (s := w.heap.size) (Nat.le_refl _) j v)
  have L1 := Lib.hid (fun (w' : World) (j : Nat) (v : Value) (h : Chg [] w w') => h.put (s := w.heap.size + 1) (Nat.le_succ _) j v)
  have g1 := lt_of_heap b1
  have C1 := Lib.hid c1
  have B0 := Lib.hid b0
  have B1 := Lib.hid b1
  clear l1 c1 b0 b1 hg
  have EA := Lib.hid ea
  clear ea
  generalize w.heap.size + 1 = s1 at *
  generalize w.heap.size = s0 at *
  have hk : ∀ w', Chg [] w1 w' → w'.cell? ⟨g, o, none⟩ = some (.int .u8 x0) ∧ w'.cell? ⟨g, o + 1, none⟩ = some (.int .u8 x1) ∧ w'.cell? ⟨g, o + 2, none⟩ = some (.int .u8 x2) ∧ w'.cell? ⟨g, o + 3, none⟩ = some (.int .u8 x3) ∧ w'.cell? ⟨g, o + 4, none⟩ = some (.int .u8 x4) ∧ Chg [] w1 w' :=
    fun w' hc => ⟨hc.c0_ p0, hc.c0_ p1, hc.c0_ p2, hc.c0_ p3, hc.c0_ p4, hc⟩
  have HK := Lib.hid hk
  clear hk p0 p1 p2 p3 p4
  go_region_held3 (fun w' => w'.cell? ⟨g, o, none⟩ = some (.int .u8 x0) ∧ w'.cell? ⟨g, o + 1, none⟩ = some (.int .u8 x1) ∧ w'.cell? ⟨g, o + 2, none⟩ = some (.int .u8 x2) ∧ w'.cell? ⟨g, o + 3, none⟩ = some (.int .u8 x3) ∧ w'.cell? ⟨g, o + 4, none⟩ = some (.int .u8 x4) ∧ Chg [] w1 w')
    (first | exact HK.out _ (Chg.refl [] w1).drew | (have hC := And.right (And.right (And.right (And.right (And.right ‹_ ∧ _ ∧ _ ∧ _ ∧ _ ∧ Chg [] w1 _›)))); first | exact HK.out _ ((Chg.refl [] w1).alloc _).drew | exact HK.out _ (hC.alloc _) | exact HK.out _ hC))
    (fail)
  all_goals
    rw [E0.out, E1.out, E2.out, E3.out, E4.out, E5.out, E6.out, E7.out, E8.out, E9.out, EA.out]
    rename_i hH
    clear hH HK E0 E1 E2 E3 E4 E5 E6 E7 E8 E9 EA
    obtain ⟨wa, hwa, c2, b2⟩ : ∃ wa : World, wa = (w1.alloc (.cells #[.int .i64 x0, .int .i64 V] 23)).drew ∧ Chg [] w1 wa ∧ wa.heap[w1.heap.size]? = some (.cells #[.int .i64 x0, .int .i64 V] 23 (0, 0)) := ⟨_, rfl, ((Chg.refl [] w1).alloc _).drew, heap_alloc_new w1 _⟩
    rw [← hwa]
    clear hwa
    generalize w1.heap.size = s2 at *
    have t0 := cell_of b2 0
    have t1 := cell_of b2 1
    simp only [List.getElem?_toArray, List.getElem?_cons_succ, List.getElem?_cons_zero] at t0 t1
    go_wp2_with fail
    clear t0 t1
    refine (HCK.out wa).mono ?_
    rintro e w2 ⟨rfl, c3⟩
    have C2 := Lib.hid ((C1.out.trans c2).trans c3)
    have q0 := c3.at_ (c2.at_ B0.out (by simp)) (by simp)
    have q1 := c3.at_ (c2.at_ B1.out (by simp)) (by simp)
    have q2 := c3.at_ b2 (by simp)
    clear c2 c3 b2 B0 B1 HCK C1
    rcases HR.out with ⟨hf, rfl, rfl, rfl⟩ | ⟨hf, rfl, rfl, rfl⟩
    · have := hE2.out
      rw [chkD_fine hf] at this
      subst this
      clear hE2 HR hf
      have z0 := cell_of q0 0
      have fz0 := free_of q0 0
      have z1 := cell_of q0 1
      have fz1 := free_of q0 1
      have y0 := cell_of q1 0
      have fy0 := free_of q1 0
      have y1 := cell_of q1 1
      have fy1 := free_of q1 1
      have t0 := cell_of q2 0
      have t1 := cell_of q2 1
      simp only [List.getElem?_toArray, List.getElem?_cons_succ, List.getElem?_cons_zero] at z0 z1 y0 y1
      simp only [List.getElem?_toArray, List.getElem?_cons_succ, List.getElem?_cons_zero] at t0 t1
      have HPP := Lib.hid (put2_2 (.int .i64 x0) (.int .i64 rs) (.int .i64 0) (.int .i64 0) q0 q1 l2)
      have CW := Lib.hid (L1.out _ 1 (.int .i64 0) (L1.out _ 0 (.int .i64 0) (L0.out _ 1 (.int .i64 rs) (L0.out _ 0 (.int .i64 x0) C2.out))))
      clear q0 q1 q2
      go_wp2
      generalize ((((w2.setCell ⟨s0, 0, none⟩ (.int .i64 x0)).setCell ⟨s0, 1, none⟩ (.int .i64 rs)).setCell ⟨s1, 0, none⟩ (.int .i64 0)).setCell ⟨s1, 1, none⟩ (.int .i64 0)) = W at *
      clear z0 z1 y0 y1 fz0 fz1 fy0 fy1
      have z0 := cell_of HPP.out.1 0
      have z1 := cell_of HPP.out.1 1
      have z2 := cell_of HPP.out.2 0
      have z3 := cell_of HPP.out.2 1
      simp only [List.getElem?_toArray, List.getElem?_cons_succ, List.getElem?_cons_zero] at z0 z1 z2 z3
      exact bodyPost_ret (v := .tuple #[.agg #[.int .i64 x0, .int .i64 rs], .agg #[.int .i64 0, .int .i64 0]]) (by simp [results, Tryd.results25, go_sem, z0, z1, z2, z3]) rfl ⟨rfl, CW.out⟩
    · have := hE2.out
      rw [chkD_odd hf] at this
      subst this
      clear hE2 HR hf
      have z0 := cell_of q0 0
      have fz0 := free_of q0 0
      have z1 := cell_of q0 1
      have fz1 := free_of q0 1
      have y0 := cell_of q1 0
      have fy0 := free_of q1 0
      have y1 := cell_of q1 1
      have fy1 := free_of q1 1
      simp only [List.getElem?_toArray, List.getElem?_cons_succ, List.getElem?_cons_zero] at z0 z1 y0 y1
      have HPP := Lib.hid (put2_2 (.int .i64 0) (.int .i64 0) (.int .i64 2) (.int .i64 0) q0 q1 l2)
      have CW := Lib.hid (L1.out _ 1 (.int .i64 0) (L1.out _ 0 (.int .i64 2) (L0.out _ 1 (.int .i64 0) (L0.out _ 0 (.int .i64 0) C2.out))))
      clear q0 q1 q2
      go_wp2
      generalize ((((w2.setCell ⟨s0, 0, none⟩ (.int .i64 0)).setCell ⟨s0, 1, none⟩ (.int .i64 0)).setCell ⟨s1, 0, none⟩ (.int .i64 2)).setCell ⟨s1, 1, none⟩ (.int .i64 0)) = W at *
      clear z0 z1 y0 y1 fz0 fz1 fy0 fy1
      have z0 := cell_of HPP.out.1 0
      have z1 := cell_of HPP.out.1 1
      have z2 := cell_of HPP.out.2 0
      have z3 := cell_of HPP.out.2 1
      simp only [List.getElem?_toArray, List.getElem?_cons_succ, List.getElem?_cons_zero] at z0 z1 z2 z3
      exact bodyPost_ret (v := .tuple #[.agg #[.int .i64 0, .int .i64 0], .agg #[.int .i64 2, .int .i64 0]]) (by simp [results, Tryd.results25, go_sem, z0, z1, z2, z3]) rfl ⟨rfl, CW.out⟩
theorem hread_any (w : World) (A : Option Addr) (n c : Nat) (xs : List UInt8) (h : Bs w A n xs) (hn : n ≤ 140737488351232) (hk : n ≤ c) (hk2 : c ≤ 9223372036854775807) :
    Calls Tryd.prog 25 #[.slice A n c] w fun e w' => e = .returned (.tuple #[.agg #[.int .i64 (readD xs).1.1, .int .i64 (readD xs).1.2], .agg #[.int .i64 (readD xs).2.1, .int .i64 (readD xs).2.2]]) ∧ Chg [] w w' := by
  by_cases h5 : xs.length = 5
  · obtain ⟨a, b, c', d, e, rfl⟩ : ∃ a b c d e, xs = [a, b, c, d, e] := by
      match xs, h5 with
      | [a, b, c, d, e], _ => exact ⟨a, b, c, d, e, rfl⟩
    obtain ⟨g, o, rfl, rfl, hg, k0, k1, k2, k3, k4⟩ := h.cells5
    have er : readD [a, b, c', d, e] = if FineD a.toNat (val4 b c' d e) then (((a.toNat : Int), val4 b c' d e), ((0 : Int), (0 : Int))) else ((0, 0), (2, 0)) := rfl
    by_cases hf : FineD a.toNat (val4 b c' d e)
    · rw [er, if_pos hf]
      rw [val4_eq] at hf ⊢
      exact hread_cells w g o c _ _ _ _ _ ⟨k0, k1, k2, k3, k4⟩ a.toNat_lt b.toNat_lt c'.toNat_lt d.toNat_lt (UInt8.toNat_lt _) hk hk2 _ _ _ (.inl ⟨hf, rfl, rfl, rfl⟩)
    · rw [er, if_neg hf]
      rw [val4_eq] at hf
      exact hread_cells w g o c _ _ _ _ _ ⟨k0, k1, k2, k3, k4⟩ a.toNat_lt b.toNat_lt c'.toNat_lt d.toNat_lt (UInt8.toNat_lt _) hk hk2 _ _ _ (.inr ⟨hf, rfl, rfl, rfl⟩)
  · exact hread_odd w A n c xs h hn h5
end Go.Proofs.YtmcnfopiilplnaaDoor
