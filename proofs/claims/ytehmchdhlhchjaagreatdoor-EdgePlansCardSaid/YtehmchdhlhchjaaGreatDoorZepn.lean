/- An event is looked for by its dot. past.push, whatever comes. past: a cursor goes on. past.begin. past: a sweep begins. past: a cursor goes on. past: a cursor passes. past: a cursor goes on. past: a cursor passes. past.until. -/
import Derived.Test.YtehmchdhlhchjaaGreatDoorZepm
import Derived.Deep.Cut
import Derived.Test.YtehmchdhlhchjaaGreatDoorZepk
import Derived.Test.YtehmchdhlhchjaaGreatDoorZepd
set_option linter.unusedSimpArgs false
set_option linter.unusedVariables false
set_option maxHeartbeats 32000000
namespace Go.Proofs.YtehmchdhlhchjaaGreatDoor
section
open Go.RowKit Go.Lib


theorem push_any (w : World) (c : Nat) (z : Sp) (A : Option Addr) (xs : List Sp) (h : OwnK spanTy w A c xs) (hn : xs.length ≤ 100000) (hb : ∀ x ∈ xs, B3 x) : Calls Tryz.prog 212 #[.slice A xs.length c, .agg #[.int .i64 z.1, .int .i64 z.2.1, .int .i64 z.2.2]] w fun e w' => ∃ A' c', e = .returned (.slice A' (pushP xs z).length c') ∧ OwnK spanTy w' A' c' (pushP xs z) ∧ (A' = A ∨ ∀ a, A' = some a → w.heap.size ≤ a.block) ∧ ∀ S : List Nat, (∀ a, A = some a → a.block ∈ S) → Chg S w w' := by
 by_cases h0 : xs.length = 0
 ·
  have e : xs = [] := List.eq_nil_of_length_eq_zero h0
  subst e
  exact push_first w c z.1 z.2.1 z.2.2 A h
 ·
  obtain ⟨y, hy⟩ : ∃ y, xs[xs.length - 1]? = some y := ⟨_, List.getElem?_eq_getElem (by omega)⟩
  have by_ := hb y (List.mem_of_getElem? hy)
  unfold B3 at by_
  by_cases ha : Ap y z
  ·
   refine (push_apart w c z.1 z.2.1 z.2.2 A xs y h (by omega) hn hy (by omega) (by omega) ha).mono ?_
   rintro e w' ⟨A', c', rfl, ho, hA, hc⟩
   rw [push_apart' hy ha]
   exact ⟨A', c', by simp, ho, hA, hc⟩
  ·
   refine (push_touches w c z.1 z.2.1 z.2.2 A xs y h (by omega) hn hy (by omega) (by omega) ha).mono ?_
   rintro e w' ⟨rfl, ho, hc⟩
   rw [push_touch hy ha]
   exact ⟨A, c, by rw [List.length_set], ho, .inl rfl, hc⟩
end
section
open Go.RowKit Go.Lib


set_option maxRecDepth 100000 in
theorem next_none_c (w : World) (g : Nat) (h0 h1 h2 : Value) (B : Option Addr) (c : Nat) (hb : w.heap[g]? = some (.cells #[h0, h1, h2, .slice B 0 c] 211 (0, 0))) :
  Calls Tryz.prog 208 #[.pointer (some ⟨g, 0, none⟩)] w fun e w' => e = .returned (.tuple #[]) ∧ w'.heap[g]? = some (.cells #[.int .i64 201, .int .i64 0, .int .i64 0, .slice B 0 c] 211 (0, 0)) ∧ Chg [g] w w' := by
 have HB := h_ hb
 clear hb
 go_enter Tryz.func208, Tryz.ntmps208
 have z0 := cell_of HB.out 0
 have z1 := cell_of HB.out 1
 have z2 := cell_of HB.out 2
 have z3 := cell_of HB.out 3
 have fz0 := free_of HB.out 0
 have fz1 := free_of HB.out 1
 have fz2 := free_of HB.out 2
 simp only [gA, gY, gZ] at z0 z1 z2 z3
 have p0 := heap_setCell_same w g 0 _ _ (.int .i64 201) HB.out
 have p1 := heap_setCell_same (w.setCell ⟨g, 0, none⟩ (.int .i64 201)) g 1 _ _ (.int .i64 0) p0
 have p2 := heap_setCell_same ((w.setCell ⟨g, 0, none⟩ (.int .i64 201)).setCell ⟨g, 1, none⟩ (.int .i64 0)) g 2 _ _ (.int .i64 0) p1
 simp only [sA, s0, s1] at p2
 have HP := h_ p2
 have CP := h_ ((((Chg.refl [g] w).setCell (p := ⟨g, 0, none⟩) (.inl (by simp)) (.int .i64 201)).setCell (p := ⟨g, 1, none⟩) (.inl (by simp)) (.int .i64 0)).setCell (p := ⟨g, 2, none⟩) (.inl (by simp)) (.int .i64 0))
 clear p0 p1 p2; go_wp2
 refine bodyPost_ret (results_none rfl _ _ _) rfl ?_
 exact ⟨rfl, HP.out, CP.out⟩
set_option maxRecDepth 100000 in
theorem next_some_c (w : World) (g : Nat) (h0 h1 h2 : Value) (B : Option Addr) (c : Nat) (x : Sp) (r : List Sp) (hb : w.heap[g]? = some (.cells #[h0, h1, h2, .slice B (r.length + 1) c] 211 (0, 0))) (hr : RdK spanTy w B (r.length + 1) (x :: r)) (hn : r.length + 1 ≤ c ∧ c ≤ maxLen) (hB : ∀ a, B = some a → a.block ≠ g) :
  Calls Tryz.prog 208 #[.pointer (some ⟨g, 0, none⟩)] w fun e w' => e = .returned (.tuple #[]) ∧ ∃ B' c', w'.heap[g]? = some (.cells #[.int .i64 x.1, .int .i64 x.2.1, .int .i64 x.2.2, (.slice B' r.length c')] 211 (0, 0)) ∧ RdK spanTy w' B' r.length r ∧ (r.length ≤ c' ∧ c' ≤ maxLen) ∧ (∀ a, B' = some a → ∃ b, B = some b ∧ a.block = b.block) ∧ Chg [g] w w' := by
 obtain ⟨gB, oB, eB, _⟩ := hr.line (by omega)
 subst eB
 have HR := h_ hr
 have HN := h_ hn
 have NB := h_ (hB ⟨gB, oB, none⟩ rfl)
 obtain ⟨y0, y1, y2⟩ := spanCells hr (j := 0) (x := x) rfl
 rw [Nat.zero_mul, Nat.add_zero] at y0 y1 y2
 have HB := h_ hb
 have Y := h_ (show w.cell? ⟨gB, oB, none⟩ = some (.int .i64 x.1) ∧ w.cell? ⟨gB, oB + 1, none⟩ = some (.int .i64 x.2.1) ∧ w.cell? ⟨gB, oB + 2, none⟩ = some (.int .i64 x.2.2) from ⟨y0, y1, y2⟩)
 clear hb hr hn y0 y1 y2 hB
 have n0 : (((r.length + 1 : Nat) : Int) == 0) = false := by simp; omega
 have n1 : (0 : Int) < ((r.length + 1 : Nat) : Int) := by omega
 have n2 : (1 : Int) ≤ ((r.length + 1 : Nat) : Int) := by omega
 have n3 : ((r.length + 1 : Nat) : Int) ≤ (c : Int) := by have := HN.out; omega
 have n5 : (1 : Int) ≤ (r.length : Int) + 1 := by omega
 have n4 : r.length + 1 - 1 = r.length := by omega
 have HT : Hid (RdK spanTy w (if c = 1 then some ⟨gB, oB, none⟩ else some ⟨gB, oB + 3, none⟩) r.length r) := h_ (by
  split
  ·
   have := HN.out
   have e : r = [] := List.eq_nil_of_length_eq_zero (by omega)
   subst e
   exact RdK.nil _ _
  ·
   have q := HR.out.part 1 r.length (by omega)
   simpa [RowTy.k, spanTy] using q)
 go_enter Tryz.func208, Tryz.ntmps208
 have z3 := cell_of HB.out 3
 simp only [gA, gY, gZ] at z3
 go_upto_region 2 with fail
 clear z3
 refine wp_region_held_drew (S := fun _ => True) (by kernel_rfl) trivial (fun hHeld => ?_)
 have CD := h_ (Chg.refl [g] w).drew
 replace HB := h_ (show w.drew.heap[g]? = some _ from HB.out)
 replace Y := h_ (show w.drew.cell? ⟨gB, oB, none⟩ = some (.int .i64 x.1) ∧ w.drew.cell? ⟨gB, oB + 1, none⟩ = some (.int .i64 x.2.1) ∧ w.drew.cell? ⟨gB, oB + 2, none⟩ = some (.int .i64 x.2.2) from Y.out)
 replace HT := h_ (show RdK spanTy w.drew _ r.length r from HT.out.chg (Chg.refl [] w).drew (by simp))
 generalize w.drew = wd at *
 generalize hAD : (if c = 1 then some ⟨gB, oB, none⟩ else some ⟨gB, oB + 3, none⟩ : Option Addr) = AD at *
 have AB : Hid (∀ a, AD = some a → a.block = gB) := h_ (by intro a ha; rw [← hAD] at ha; split at ha <;> cases ha <;> rfl)
 refine sy 0 12 rfl rfl ?_ (hS := trivial)
 try simp only [Act.put, sA, s0, s1]
 refine sy 1 13 rfl rfl ?_ (hS := trivial)
 try simp only [Act.put, sA, s0, s1]
 refine sy 2 14 rfl rfl ?_ (hS := trivial)
 try simp only [Act.put, sA, s0, s1]
 refine sy 3 15 rfl rfl ?_ (hS := trivial)
 try simp only [Act.put, sA, s0, s1]
 refine sy 4 16 rfl rfl ?_ (hS := trivial)
 try simp only [Act.put, sA, s0, s1]
 refine sy 8 20 rfl rfl ?_ (hS := trivial)
 try simp only [Act.put, sA, s0, s1]
 refine sy 9 21 rfl rfl ?_ (hS := trivial)
 try simp only [Act.put, sA, s0, s1]
 refine sy 10 22 rfl rfl ?_ (hS := trivial)
 try simp only [Act.put, sA, s0, s1]
 refine wpAnyH_ready (rs := [5, 11]) (by kernel_rfl) (by simp) ?_
 refine AllReadyH.cons rfl (fun K hK => ?_) (AllReadyH.cons rfl (fun K hK => ?_) AllReadyH.nil)
 ·
  skip
  replace hK := h_ hK
  have z3 := cell_of HB.out 3
  simp only [gA, gY, gZ] at z3
  go_simp; clear z3 hHeld
  refine hK.out _ _ trivial (fun hHeld => ?_)
  clear hK K; try simp only [Act.put, sA, s0, s1]
  refine sy 6 18 rfl rfl ?_ (hS := trivial)
  try simp only [Act.put, sA, s0, s1]
  refine wpAnyH_ready (rs := [7, 11]) (by kernel_rfl) (by simp) ?_
  refine AllReadyH.cons rfl (fun K hK => ?_) (AllReadyH.cons rfl (fun K hK => ?_) AllReadyH.nil)
  ·
   skip
   replace hK := h_ hK
   obtain ⟨y0, y1, y2⟩ := Y.out
   go_simp; clear y0 y1 y2 hHeld
   refine hK.out _ _ trivial (fun hHeld => ?_)
   clear hK K; try simp only [Act.put, sA, s0, s1]
   refine on1 11 rfl (fun K hK => ?_)
   have z3 := cell_of HB.out 3
   simp only [gA, gY, gZ] at z3
   go_simp; clear z3 hHeld
   refine hK.out _ _ trivial (fun hHeld => ?_)
   clear hK K; try simp only [Act.put, sA, s0, s1]
   refine sy 12 24 rfl rfl ?_ (hS := trivial)
   try simp only [Act.put, sA, s0, s1]
   refine sy 13 25 rfl rfl ?_ (hS := trivial)
   try simp only [Act.put, sA, s0, s1]
   refine sy 14 26 rfl rfl ?_ (hS := trivial)
   try simp only [Act.put, sA, s0, s1]
   refine on1 15 rfl (fun K hK => ?_)
   have z0 := cell_of HB.out 0
   have z1 := cell_of HB.out 1
   have z2 := cell_of HB.out 2
   have fz0 := free_of HB.out 0
   have fz1 := free_of HB.out 1
   have fz2 := free_of HB.out 2
   simp only [gA, gY, gZ] at z0 z1 z2
   have p0 := heap_setCell_same wd g 0 _ _ (.int .i64 x.1) HB.out
   have p1 := heap_setCell_same (wd.setCell ⟨g, 0, none⟩ (.int .i64 x.1)) g 1 _ _ (.int .i64 x.2.1) p0
   have p2 := heap_setCell_same ((wd.setCell ⟨g, 0, none⟩ (.int .i64 x.1)).setCell ⟨g, 1, none⟩ (.int .i64 x.2.1)) g 2 _ _ (.int .i64 x.2.2) p1
   simp only [sA, s0, s1] at p2
   have HP := h_ p2
   clear p0 p1 p2; go_simp; clear hHeld z0 fz0 z1 fz1 z2 fz2
   refine hK.out _ _ trivial (fun hHeld => ?_)
   clear hK K; try simp only [Act.put, sA, s0, s1]
   refine sy 16 27 rfl rfl ?_ (hS := trivial)
   try simp only [Act.put, sA, s0, s1]
   refine sy 17 28 rfl rfl ?_ (hS := trivial)
   try simp only [Act.put, sA, s0, s1]
   refine on1 18 rfl (fun K hK => ?_)
   have z3 := cell_of HP.out 3
   have fz3 := free_of HP.out 3
   simp only [gA, gY, gZ] at z3
   go_simp; clear hHeld z3 fz3
   refine hK.out _ _ trivial (fun hHeld => ?_)
   clear hK K; try simp only [Act.put, sA, s0, s1]
   refine wpAnyH_done (by kernel_rfl) ?_ _
   have HQ := heap_setCell_same _ g 3 _ _ (.slice AD r.length (c - 1)) HP.out
   simp only [sA, s0, s1] at HQ
   have CQ := h_ (((((Chg.refl [g] wd).setCell (p := ⟨g, 0, none⟩) (.inl (by simp)) (.int .i64 x.1)).setCell (p := ⟨g, 1, none⟩) (.inl (by simp)) (.int .i64 x.2.1)).setCell (p := ⟨g, 2, none⟩) (.inl (by simp)) (.int .i64 x.2.2)).setCell (p := ⟨g, 3, none⟩) (.inl (by simp)) (.slice AD r.length (c - 1)))
   have HQ2 := h_ HQ
   clear HQ; go_wp2
   go_end0
   exact ⟨rfl, AD, c - 1, HQ2.out, HT.out.chg CQ.out (fun a ha => by rw [AB.out a ha]; simpa using NB.out), by have := HN.out; omega, fun a ha => by (first | exact ⟨_, rfl, AB.out a ha⟩ | exact AB.out a ha | simpa using AB.out a ha), CD.out.trans CQ.out⟩
  ·
   skip
   replace hK := h_ hK
   have z3 := cell_of HB.out 3
   simp only [gA, gY, gZ] at z3
   go_simp; clear z3 hHeld
   refine hK.out _ _ trivial (fun hHeld => ?_)
   clear hK K; try simp only [Act.put, sA, s0, s1]
   refine sy 12 24 rfl rfl ?_ (hS := trivial)
   try simp only [Act.put, sA, s0, s1]
   refine on1 7 rfl (fun K hK => ?_)
   obtain ⟨y0, y1, y2⟩ := Y.out
   go_simp; clear y0 y1 y2 hHeld
   refine hK.out _ _ trivial (fun hHeld => ?_)
   clear hK K; try simp only [Act.put, sA, s0, s1]
   refine sy 13 25 rfl rfl ?_ (hS := trivial)
   try simp only [Act.put, sA, s0, s1]
   refine sy 14 26 rfl rfl ?_ (hS := trivial)
   try simp only [Act.put, sA, s0, s1]
   refine on1 15 rfl (fun K hK => ?_)
   have z0 := cell_of HB.out 0
   have z1 := cell_of HB.out 1
   have z2 := cell_of HB.out 2
   have fz0 := free_of HB.out 0
   have fz1 := free_of HB.out 1
   have fz2 := free_of HB.out 2
   simp only [gA, gY, gZ] at z0 z1 z2
   have p0 := heap_setCell_same wd g 0 _ _ (.int .i64 x.1) HB.out
   have p1 := heap_setCell_same (wd.setCell ⟨g, 0, none⟩ (.int .i64 x.1)) g 1 _ _ (.int .i64 x.2.1) p0
   have p2 := heap_setCell_same ((wd.setCell ⟨g, 0, none⟩ (.int .i64 x.1)).setCell ⟨g, 1, none⟩ (.int .i64 x.2.1)) g 2 _ _ (.int .i64 x.2.2) p1
   simp only [sA, s0, s1] at p2
   have HP := h_ p2
   clear p0 p1 p2; go_simp; clear hHeld z0 fz0 z1 fz1 z2 fz2
   refine hK.out _ _ trivial (fun hHeld => ?_)
   clear hK K; try simp only [Act.put, sA, s0, s1]
   refine sy 16 27 rfl rfl ?_ (hS := trivial)
   try simp only [Act.put, sA, s0, s1]
   refine sy 17 28 rfl rfl ?_ (hS := trivial)
   try simp only [Act.put, sA, s0, s1]
   refine on1 18 rfl (fun K hK => ?_)
   have z3 := cell_of HP.out 3
   have fz3 := free_of HP.out 3
   simp only [gA, gY, gZ] at z3
   go_simp; clear hHeld z3 fz3
   refine hK.out _ _ trivial (fun hHeld => ?_)
   clear hK K; try simp only [Act.put, sA, s0, s1]
   refine wpAnyH_done (by kernel_rfl) ?_ _
   have HQ := heap_setCell_same _ g 3 _ _ (.slice AD r.length (c - 1)) HP.out
   simp only [sA, s0, s1] at HQ
   have CQ := h_ (((((Chg.refl [g] wd).setCell (p := ⟨g, 0, none⟩) (.inl (by simp)) (.int .i64 x.1)).setCell (p := ⟨g, 1, none⟩) (.inl (by simp)) (.int .i64 x.2.1)).setCell (p := ⟨g, 2, none⟩) (.inl (by simp)) (.int .i64 x.2.2)).setCell (p := ⟨g, 3, none⟩) (.inl (by simp)) (.slice AD r.length (c - 1)))
   have HQ2 := h_ HQ
   clear HQ; go_wp2
   go_end0
   exact ⟨rfl, AD, c - 1, HQ2.out, HT.out.chg CQ.out (fun a ha => by rw [AB.out a ha]; simpa using NB.out), by have := HN.out; omega, fun a ha => by (first | exact ⟨_, rfl, AB.out a ha⟩ | exact AB.out a ha | simpa using AB.out a ha), CD.out.trans CQ.out⟩
 ·
  skip
  replace hK := h_ hK
  have z3 := cell_of HB.out 3
  simp only [gA, gY, gZ] at z3
  go_simp; clear z3 hHeld
  refine hK.out _ _ trivial (fun hHeld => ?_)
  clear hK K; try simp only [Act.put, sA, s0, s1]
  refine sy 12 24 rfl rfl ?_ (hS := trivial)
  try simp only [Act.put, sA, s0, s1]
  refine on1 5 rfl (fun K hK => ?_)
  have z3 := cell_of HB.out 3
  simp only [gA, gY, gZ] at z3
  go_simp; clear z3 hHeld
  refine hK.out _ _ trivial (fun hHeld => ?_)
  clear hK K; try simp only [Act.put, sA, s0, s1]
  refine sy 6 18 rfl rfl ?_ (hS := trivial)
  try simp only [Act.put, sA, s0, s1]
  refine on1 7 rfl (fun K hK => ?_)
  obtain ⟨y0, y1, y2⟩ := Y.out
  go_simp; clear y0 y1 y2 hHeld
  refine hK.out _ _ trivial (fun hHeld => ?_)
  clear hK K; try simp only [Act.put, sA, s0, s1]
  refine sy 13 25 rfl rfl ?_ (hS := trivial)
  try simp only [Act.put, sA, s0, s1]
  refine sy 14 26 rfl rfl ?_ (hS := trivial)
  try simp only [Act.put, sA, s0, s1]
  refine on1 15 rfl (fun K hK => ?_)
  have z0 := cell_of HB.out 0
  have z1 := cell_of HB.out 1
  have z2 := cell_of HB.out 2
  have fz0 := free_of HB.out 0
  have fz1 := free_of HB.out 1
  have fz2 := free_of HB.out 2
  simp only [gA, gY, gZ] at z0 z1 z2
  have p0 := heap_setCell_same wd g 0 _ _ (.int .i64 x.1) HB.out
  have p1 := heap_setCell_same (wd.setCell ⟨g, 0, none⟩ (.int .i64 x.1)) g 1 _ _ (.int .i64 x.2.1) p0
  have p2 := heap_setCell_same ((wd.setCell ⟨g, 0, none⟩ (.int .i64 x.1)).setCell ⟨g, 1, none⟩ (.int .i64 x.2.1)) g 2 _ _ (.int .i64 x.2.2) p1
  simp only [sA, s0, s1] at p2
  have HP := h_ p2
  clear p0 p1 p2; go_simp; clear hHeld z0 fz0 z1 fz1 z2 fz2
  refine hK.out _ _ trivial (fun hHeld => ?_)
  clear hK K; try simp only [Act.put, sA, s0, s1]
  refine sy 16 27 rfl rfl ?_ (hS := trivial)
  try simp only [Act.put, sA, s0, s1]
  refine sy 17 28 rfl rfl ?_ (hS := trivial)
  try simp only [Act.put, sA, s0, s1]
  refine on1 18 rfl (fun K hK => ?_)
  have z3 := cell_of HP.out 3
  have fz3 := free_of HP.out 3
  simp only [gA, gY, gZ] at z3
  go_simp; clear hHeld z3 fz3
  refine hK.out _ _ trivial (fun hHeld => ?_)
  clear hK K; try simp only [Act.put, sA, s0, s1]
  refine wpAnyH_done (by kernel_rfl) ?_ _
  have HQ := heap_setCell_same _ g 3 _ _ (.slice AD r.length (c - 1)) HP.out
  simp only [sA, s0, s1] at HQ
  have CQ := h_ (((((Chg.refl [g] wd).setCell (p := ⟨g, 0, none⟩) (.inl (by simp)) (.int .i64 x.1)).setCell (p := ⟨g, 1, none⟩) (.inl (by simp)) (.int .i64 x.2.1)).setCell (p := ⟨g, 2, none⟩) (.inl (by simp)) (.int .i64 x.2.2)).setCell (p := ⟨g, 3, none⟩) (.inl (by simp)) (.slice AD r.length (c - 1)))
  have HQ2 := h_ HQ
  clear HQ; go_wp2
  go_end0
  exact ⟨rfl, AD, c - 1, HQ2.out, HT.out.chg CQ.out (fun a ha => by rw [AB.out a ha]; simpa using NB.out), by have := HN.out; omega, fun a ha => by (first | exact ⟨_, rfl, AB.out a ha⟩ | exact AB.out a ha | simpa using AB.out a ha), CD.out.trans CQ.out⟩
end
section
open Go.RowKit Go.Lib


set_option maxRecDepth 100000 in
theorem begin_anyw (w : World) (B : Option Addr) (c : Nat) (l : List Sp) (hr : RdK spanTy w B l.length l) (hn : l.length ≤ c ∧ c ≤ maxLen) (hold : l = [] ∨ ∀ a, B = some a → a.block < w.heap.size) :
  Calls Tryz.prog 191 #[.slice B l.length c] w fun e w' => ∃ B' c', e = .returned (.agg #[.int .i64 (hdP l).1, .int .i64 (hdP l).2.1, .int .i64 (hdP l).2.2, .slice B' l.tail.length c']) ∧ RdK spanTy w' B' l.tail.length l.tail ∧ (l.tail.length ≤ c' ∧ c' ≤ maxLen) ∧ (∀ a, B' = some a → ∃ b, B = some b ∧ a.block = b.block) ∧ Chg [] w w' := by
 have HR := h_ hr
 have HN := h_ hn
 clear hr hn
 obtain ⟨w1, hw1, c1, b1, b2⟩ := news2 w (.cells #[.int .i64 0, .int .i64 0, .int .i64 0, .slice none 0 0] 211) (.cells #[.int .i64 0, .int .i64 0, .int .i64 0, .slice B l.length c] 211)
 have W1 := h_ hw1
 have C1 := h_ c1
 have B1 := h_ b1
 have B2 := h_ b2
 have L1 := h_ (lt_of_heap b2)
 replace HR := h_ (HR.out.chg c1 (by simp))
 have OLD := h_ hold
 clear hw1 c1 b1 b2 hold
 go_enter Tryz.func191, Tryz.ntmps191
 go_wp2_with fail
 rw [← W1.out]
 have S1 : Hid (w.heap.size + 1 < w1.heap.size) := L1
 generalize hg0 : w.heap.size = g0 at *
 clear W1 L1
 have key : Calls Tryz.prog 208 #[.pointer (some ⟨g0 + 1, 0, none⟩)] w1 fun e w' => e = .returned (.tuple #[]) ∧ ∃ B' c', w'.heap[g0 + 1]? = some (.cells #[.int .i64 (hdP l).1, .int .i64 (hdP l).2.1, .int .i64 (hdP l).2.2, .slice B' l.tail.length c'] 211 (0, 0)) ∧ RdK spanTy w' B' l.tail.length l.tail ∧ (l.tail.length ≤ c' ∧ c' ≤ maxLen) ∧ (∀ a, B' = some a → ∃ b, B = some b ∧ a.block = b.block) ∧ Chg [g0 + 1] w1 w' := by
  cases l with
  | nil =>
   refine (next_none_c w1 (g0 + 1) _ _ _ B c B2.out).mono ?_
   rintro e w' ⟨rfl, h1, h2⟩
   exact ⟨rfl, B, c, h1, RdK.nil _ _, ⟨Nat.zero_le _, HN.out.2⟩, fun a ha => ⟨a, ha, rfl⟩, h2⟩
  | cons x r =>
   refine (next_some_c w1 (g0 + 1) _ _ _ B c x r B2.out HR.out HN.out (fun a ha => by have := OLD.out.resolve_left (by simp) a ha; omega)).mono ?_
   rintro e w' ⟨rfl, B2, c2, h1, h2, h3, h4, h5⟩
   exact ⟨rfl, B2, c2, h1, h2, h3, h4, h5⟩
 refine key.mono ?_
 rintro e w2 ⟨rfl, B', c', h1, h2, h3, h4, h5⟩
 have HB := h_ h1
 have HQ := h_ h2
 have H3 := h_ h3
 have H4 := h_ h4
 have C2 := h_ h5
 replace B1 := h_ (h5.at_ B1.out (by simp))
 clear h1 h2 h3 h4 h5 key
 generalize hhd : hdP l = hd at *
 generalize htl : l.tail = tl at *
 have HHD := h_ hhd
 have HTL := h_ htl
 clear hhd htl
 obtain ⟨y0, y1, y2, y3⟩ := ce4 HB.out
 have z0 := cell_of B1.out 0
 have z1 := cell_of B1.out 1
 have z2 := cell_of B1.out 2
 have z3 := cell_of B1.out 3
 have fz0 := free_of B1.out 0
 have fz1 := free_of B1.out 1
 have fz2 := free_of B1.out 2
 have fz3 := free_of B1.out 3
 simp only [gA, gY, gZ] at z0 z1 z2 z3
 generalize hg1 : g0 + 1 = g1 at *
 have p0 := heap_setCell_same w2 g0 0 _ _ (.int .i64 hd.1) B1.out
 have p1 := heap_setCell_same (w2.setCell ⟨g0, 0, none⟩ (.int .i64 hd.1)) g0 1 _ _ (.int .i64 hd.2.1) p0
 have p2 := heap_setCell_same ((w2.setCell ⟨g0, 0, none⟩ (.int .i64 hd.1)).setCell ⟨g0, 1, none⟩ (.int .i64 hd.2.1)) g0 2 _ _ (.int .i64 hd.2.2) p1
 have p3 := heap_setCell_same (((w2.setCell ⟨g0, 0, none⟩ (.int .i64 hd.1)).setCell ⟨g0, 1, none⟩ (.int .i64 hd.2.1)).setCell ⟨g0, 2, none⟩ (.int .i64 hd.2.2)) g0 3 _ _ ((.slice B' tl.length c')) p2
 simp only [sA, s0, s1] at p3
 have HP := h_ p3
 have CP := h_ (((((Chg.refl [g0] w2).setCell (p := ⟨g0, 0, none⟩) (.inl (by simp)) (.int .i64 hd.1)).setCell (p := ⟨g0, 1, none⟩) (.inl (by simp)) (.int .i64 hd.2.1)).setCell (p := ⟨g0, 2, none⟩) (.inl (by simp)) (.int .i64 hd.2.2)).setCell (p := ⟨g0, 3, none⟩) (.inl (by simp)) ((.slice B' tl.length c')))
 clear p0 p1 p2 p3; go_wp2
 generalize ((((w2.setCell ⟨g0, 0, none⟩ (.int .i64 hd.1)).setCell ⟨g0, 1, none⟩ (.int .i64 hd.2.1)).setCell ⟨g0, 2, none⟩ (.int .i64 hd.2.2)).setCell ⟨g0, 3, none⟩ ((.slice B' tl.length c'))) = wf at *
 obtain ⟨q0, q1, q2, q3⟩ := ce4 HP.out
 refine bodyPost_ret (v := .agg #[.int .i64 hd.1, .int .i64 hd.2.1, .int .i64 hd.2.2, .slice B' tl.length c']) (by simp [results, Tryz.results191, go_sem, q0, q1, q2, q3]) rfl ?_
 have e1 := HHD.out
 have e2 := HTL.out
 subst e1; subst e2
 refine ⟨B', c', rfl, (by
  rcases OLD.out with q | q
  ·
   subst q; exact RdK.nil _ _
  ·
   exact HQ.out.chg CP.out (fun a ha => by obtain ⟨b, hb, e⟩ := H4.out a ha; have := q b hb; simp; omega)), H3.out, H4.out, ?_⟩
 exact (C1.out.trans' C2.out (fun z hz => by simp at hz; subst hz; exact .inr (by omega))).trans' CP.out (fun z hz => by simp at hz; subst hz; exact .inr (by omega))
end
section
open Go.RowKit Go.Lib


structure SwQ (w : World) (g : Nat) (X : List Nat) (la lb : List Sp) (K : Nat) (A : Option Addr) (c : Nat) (B : Option Addr) (d : Nat) : Prop where
 hg : w.heap[g]? = some (.cells #[.int .i64 (hdP la).1, .int .i64 (hdP la).2.1, .int .i64 (hdP la).2.2, .slice A la.tail.length c, .int .i64 (hdP lb).1, .int .i64 (hdP lb).2.1, .int .i64 (hdP lb).2.2, .slice B lb.tail.length d, .func (.func K) #[] #[]] 214 (0, 0))
 ra : RdK spanTy w A la.tail.length la.tail
 ca : la.tail.length ≤ c ∧ c ≤ maxLen
 na : la = [] ∨ ∀ a, A = some a → a.block ∈ X
 rb : RdK spanTy w B lb.tail.length lb.tail
 cb : lb.tail.length ≤ d ∧ d ≤ maxLen
 nb : lb = [] ∨ ∀ a, B = some a → a.block ∈ X
 gx : g ∉ X
def SwP (w : World) (g : Nat) (X : List Nat) (la lb : List Sp) (K : Nat) : Prop := ∃ A c B d, SwQ w g X la lb K A c B d
theorem rd_old {w w' : World} {A : Option Addr} {l : List Sp} (h : RdK spanTy w A l.tail.length l.tail) (k : l = [] ∨ RdK spanTy w' A l.tail.length l.tail) : RdK spanTy w' A l.tail.length l.tail := by
 rcases k with rfl | k
 ·
  exact RdK.nil _ _
 ·
  exact k
theorem SwQ.rachg {w w' : World} {g : Nat} {X : List Nat} {la lb : List Sp} {K : Nat} {A : Option Addr} {c : Nat} {B : Option Addr} {d : Nat} (h : SwQ w g X la lb K A c B d) (hc : Chg [g] w w') : RdK spanTy w' A la.tail.length la.tail :=
 rd_old h.ra (h.na.imp id (fun q => h.ra.chg hc (fun a ha hm => by simp at hm; exact h.gx (hm ▸ q a ha))))
theorem SwQ.rbchg {w w' : World} {g : Nat} {X : List Nat} {la lb : List Sp} {K : Nat} {A : Option Addr} {c : Nat} {B : Option Addr} {d : Nat} (h : SwQ w g X la lb K A c B d) (hc : Chg [g] w w') : RdK spanTy w' B lb.tail.length lb.tail :=
 rd_old h.rb (h.nb.imp id (fun q => h.rb.chg hc (fun a ha hm => by simp at hm; exact h.gx (hm ▸ q a ha))))
theorem SwQ.chg {w w' : World} {S : List Nat} {g : Nat} {X : List Nat} {la lb : List Sp} {K : Nat} {A : Option Addr} {c : Nat} {B : Option Addr} {d : Nat} (h : SwQ w g X la lb K A c B d) (hc : Chg S w w') (hg : g ∉ S) (hX : ∀ z ∈ X, z ∉ S) : SwQ w' g X la lb K A c B d :=
 ⟨hc.at_ h.hg hg, rd_old h.ra (h.na.imp id (fun q => h.ra.chg hc (fun a ha => hX _ (q a ha)))), h.ca, h.na, rd_old h.rb (h.nb.imp id (fun q => h.rb.chg hc (fun a ha => hX _ (q a ha)))), h.cb, h.nb, h.gx⟩
theorem SwP.chg {w w' : World} {S : List Nat} {g : Nat} {X : List Nat} {la lb : List Sp} {K : Nat} (h : SwP w g X la lb K) (hc : Chg S w w') (hg : g ∉ S) (hX : ∀ z ∈ X, z ∉ S) : SwP w' g X la lb K := by
 obtain ⟨A, c, B, d, h⟩ := h
 exact ⟨A, c, B, d, h.chg hc hg hX⟩
theorem join3 {α β γ : Type} {F R : α → β → γ → Prop} {G : Prop} (h1 : (∀ a b c, F a b c → R a b c) → G) (h2 : ∀ a b c, F a b c → R a b c) : G := h1 h2
set_option maxRecDepth 100000 in
theorem over_anyw (w : World) (A : Option Addr) (c : Nat) (la : List Sp) (B : Option Addr) (d : Nat) (lb : List Sp) (K : Nat) (X : List Nat) (ha : RdK spanTy w A la.length la) (hca : la.length ≤ c ∧ c ≤ maxLen) (hoa : la = [] ∨ ∀ a, A = some a → a.block < w.heap.size) (hb : RdK spanTy w B lb.length lb) (hcb : lb.length ≤ d ∧ d ≤ maxLen) (hob : lb = [] ∨ ∀ a, B = some a → a.block < w.heap.size) (hxa : la = [] ∨ ∀ a, A = some a → a.block ∈ X) (hxb : lb = [] ∨ ∀ a, B = some a → a.block ∈ X) (hX : ∀ z ∈ X, z < w.heap.size) :
  Calls Tryz.prog 154 #[.slice A la.length c, .slice B lb.length d, .func (.func K) #[] #[]] w fun e w' => ∃ g, e = .returned (.pointer (some ⟨g, 0, none⟩)) ∧ SwP w' g X la lb K ∧ w.heap.size ≤ g ∧ Chg [] w w' := by
 have HA := h_ ha
 have HCA := h_ hca
 have HOA := h_ hoa
 have HB := h_ hb
 have HCB := h_ hcb
 have HOB := h_ hob
 clear ha hca hoa hb hcb hob
 go_enter Tryz.func154, Tryz.ntmps154
 go_wp2_with fail
 refine (begin_anyw w A c la HA.out HCA.out HOA.out).mono ?_
 rintro r w1 ⟨A', c', rfl, h1, h2, h3, h4⟩
 have H1 := h_ h1
 have H2 := h_ h2
 have H3 := h_ h3
 have C1 := h_ h4
 clear h1 h2 h3 h4; go_wp2_with fail
 refine (begin_anyw w1 B d lb (HB.out.chg C1.out (by simp)) HCB.out (HOB.out.imp id (fun q a ha => Nat.lt_of_lt_of_le (q a ha) C1.out.size))).mono ?_
 rintro r w2 ⟨B', d', rfl, h1, h2, h3, h4⟩
 have H4 := h_ h1
 have H5 := h_ h2
 have H6 := h_ h3
 have C2 := h_ h4
 clear h1 h2 h3 h4
 obtain ⟨w3, hw3, c3, b3⟩ := news1 w2 (.cells #[.int .i64 (hdP la).1, .int .i64 (hdP la).2.1, .int .i64 (hdP la).2.2, .slice A' (la.length - 1) c', .int .i64 (hdP lb).1, .int .i64 (hdP lb).2.1, .int .i64 (hdP lb).2.2, .slice B' (lb.length - 1) d', .func (.func K) #[] #[]] 214)
 have W3 := h_ hw3
 have C3 := h_ (C1.out.trans (C2.out.trans c3))
 have FI : Hid (SwP w3 w2.heap.size X la lb K) := h_ ⟨A', c', B', d', by rw [List.length_tail, List.length_tail]; exact b3, (H1.out.chg C2.out (by simp)).chg c3 (by simp), H2.out, hxa.imp id (fun q a ha => by obtain ⟨b, hb, e⟩ := H3.out a ha; rw [e]; exact q b hb), H4.out.chg c3 (by simp), H5.out, hxb.imp id (fun q a ha => by obtain ⟨b, hb, e⟩ := H6.out a ha; rw [e]; exact q b hb), fun hm => by have := hX _ hm; have := C1.out.size; have := C2.out.size; omega⟩
 have SZ := h_ (show w.heap.size ≤ w2.heap.size from Nat.le_trans C1.out.size C2.out.size)
 clear hw3 c3 b3; go_wp2
 rw [← W3.out]
 go_ret
 exact ⟨_, rfl, FI.out, SZ.out, C3.out⟩
theorem over_any (w : World) (A : Option Addr) (c : Nat) (la : List Sp) (B : Option Addr) (d : Nat) (lb : List Sp) (K : Nat) (X : List Nat) (ha : RdK spanTy w A la.length la) (hca : la.length ≤ c ∧ c ≤ maxLen) (hoa : ∀ a, A = some a → a.block < w.heap.size) (hb : RdK spanTy w B lb.length lb) (hcb : lb.length ≤ d ∧ d ≤ maxLen) (hob : ∀ a, B = some a → a.block < w.heap.size) (hxa : ∀ a, A = some a → a.block ∈ X) (hxb : ∀ a, B = some a → a.block ∈ X) (hX : ∀ z ∈ X, z < w.heap.size) :
  Calls Tryz.prog 154 #[.slice A la.length c, .slice B lb.length d, .func (.func K) #[] #[]] w fun e w' => ∃ g, e = .returned (.pointer (some ⟨g, 0, none⟩)) ∧ SwP w' g X la lb K ∧ w.heap.size ≤ g ∧ Chg [] w w' :=
 over_anyw w A c la B d lb K X ha hca (.inr hoa) hb hcb (.inr hob) (.inr hxa) (.inr hxb) hX
end
section
open Go.RowKit Go.Lib


set_option maxRecDepth 100000 in
theorem next_none_a (w : World) (g : Nat) (v0 v1 v2 v3 vk : Value) (h0 h1 h2 : Value) (B : Option Addr) (c : Nat) (hb : w.heap[g]? = some (.cells #[h0, h1, h2, .slice B 0 c, v0, v1, v2, v3, vk] 214 (0, 0))) :
  Calls Tryz.prog 208 #[.pointer (some ⟨g, 0, none⟩)] w fun e w' => e = .returned (.tuple #[]) ∧ w'.heap[g]? = some (.cells #[.int .i64 201, .int .i64 0, .int .i64 0, .slice B 0 c, v0, v1, v2, v3, vk] 214 (0, 0)) ∧ Chg [g] w w' := by
 have HB := h_ hb
 clear hb
 go_enter Tryz.func208, Tryz.ntmps208
 have z0 := cell_of HB.out 0
 have z1 := cell_of HB.out 1
 have z2 := cell_of HB.out 2
 have z3 := cell_of HB.out 3
 have fz0 := free_of HB.out 0
 have fz1 := free_of HB.out 1
 have fz2 := free_of HB.out 2
 simp only [gA, gY, gZ] at z0 z1 z2 z3
 have p0 := heap_setCell_same w g 0 _ _ (.int .i64 201) HB.out
 have p1 := heap_setCell_same (w.setCell ⟨g, 0, none⟩ (.int .i64 201)) g 1 _ _ (.int .i64 0) p0
 have p2 := heap_setCell_same ((w.setCell ⟨g, 0, none⟩ (.int .i64 201)).setCell ⟨g, 1, none⟩ (.int .i64 0)) g 2 _ _ (.int .i64 0) p1
 simp only [sA, s0, s1] at p2
 have HP := h_ p2
 have CP := h_ ((((Chg.refl [g] w).setCell (p := ⟨g, 0, none⟩) (.inl (by simp)) (.int .i64 201)).setCell (p := ⟨g, 1, none⟩) (.inl (by simp)) (.int .i64 0)).setCell (p := ⟨g, 2, none⟩) (.inl (by simp)) (.int .i64 0))
 clear p0 p1 p2; go_wp2
 refine bodyPost_ret (results_none rfl _ _ _) rfl ?_
 exact ⟨rfl, HP.out, CP.out⟩
set_option maxRecDepth 100000 in
theorem next_some_a (w : World) (g : Nat) (v0 v1 v2 v3 vk : Value) (h0 h1 h2 : Value) (B : Option Addr) (c : Nat) (x : Sp) (r : List Sp) (hb : w.heap[g]? = some (.cells #[h0, h1, h2, .slice B (r.length + 1) c, v0, v1, v2, v3, vk] 214 (0, 0))) (hr : RdK spanTy w B (r.length + 1) (x :: r)) (hn : r.length + 1 ≤ c ∧ c ≤ maxLen) (hB : ∀ a, B = some a → a.block ≠ g) :
  Calls Tryz.prog 208 #[.pointer (some ⟨g, 0, none⟩)] w fun e w' => e = .returned (.tuple #[]) ∧ ∃ B' c', w'.heap[g]? = some (.cells #[.int .i64 x.1, .int .i64 x.2.1, .int .i64 x.2.2, (.slice B' r.length c'), v0, v1, v2, v3, vk] 214 (0, 0)) ∧ RdK spanTy w' B' r.length r ∧ (r.length ≤ c' ∧ c' ≤ maxLen) ∧ (∀ a, B' = some a → ∃ b, B = some b ∧ a.block = b.block) ∧ Chg [g] w w' := by
 obtain ⟨gB, oB, eB, _⟩ := hr.line (by omega)
 subst eB
 have HR := h_ hr
 have HN := h_ hn
 have NB := h_ (hB ⟨gB, oB, none⟩ rfl)
 obtain ⟨y0, y1, y2⟩ := spanCells hr (j := 0) (x := x) rfl
 rw [Nat.zero_mul, Nat.add_zero] at y0 y1 y2
 have HB := h_ hb
 have Y := h_ (show w.cell? ⟨gB, oB, none⟩ = some (.int .i64 x.1) ∧ w.cell? ⟨gB, oB + 1, none⟩ = some (.int .i64 x.2.1) ∧ w.cell? ⟨gB, oB + 2, none⟩ = some (.int .i64 x.2.2) from ⟨y0, y1, y2⟩)
 clear hb hr hn y0 y1 y2 hB
 have n0 : (((r.length + 1 : Nat) : Int) == 0) = false := by simp; omega
 have n1 : (0 : Int) < ((r.length + 1 : Nat) : Int) := by omega
 have n2 : (1 : Int) ≤ ((r.length + 1 : Nat) : Int) := by omega
 have n3 : ((r.length + 1 : Nat) : Int) ≤ (c : Int) := by have := HN.out; omega
 have n5 : (1 : Int) ≤ (r.length : Int) + 1 := by omega
 have n4 : r.length + 1 - 1 = r.length := by omega
 have HT : Hid (RdK spanTy w (if c = 1 then some ⟨gB, oB, none⟩ else some ⟨gB, oB + 3, none⟩) r.length r) := h_ (by
  split
  ·
   have := HN.out
   have e : r = [] := List.eq_nil_of_length_eq_zero (by omega)
   subst e
   exact RdK.nil _ _
  ·
   have q := HR.out.part 1 r.length (by omega)
   simpa [RowTy.k, spanTy] using q)
 go_enter Tryz.func208, Tryz.ntmps208
 have z3 := cell_of HB.out 3
 simp only [gA, gY, gZ] at z3
 go_upto_region 2 with fail
 clear z3
 refine wp_region_held_drew (S := fun _ => True) (by kernel_rfl) trivial (fun hHeld => ?_)
 have CD := h_ (Chg.refl [g] w).drew
 replace HB := h_ (show w.drew.heap[g]? = some _ from HB.out)
 replace Y := h_ (show w.drew.cell? ⟨gB, oB, none⟩ = some (.int .i64 x.1) ∧ w.drew.cell? ⟨gB, oB + 1, none⟩ = some (.int .i64 x.2.1) ∧ w.drew.cell? ⟨gB, oB + 2, none⟩ = some (.int .i64 x.2.2) from Y.out)
 replace HT := h_ (show RdK spanTy w.drew _ r.length r from HT.out.chg (Chg.refl [] w).drew (by simp))
 generalize w.drew = wd at *
 generalize hAD : (if c = 1 then some ⟨gB, oB, none⟩ else some ⟨gB, oB + 3, none⟩ : Option Addr) = AD at *
 have AB : Hid (∀ a, AD = some a → a.block = gB) := h_ (by intro a ha; rw [← hAD] at ha; split at ha <;> cases ha <;> rfl)
 refine sy 0 12 rfl rfl ?_ (hS := trivial)
 try simp only [Act.put, sA, s0, s1]
 refine sy 1 13 rfl rfl ?_ (hS := trivial)
 try simp only [Act.put, sA, s0, s1]
 refine sy 2 14 rfl rfl ?_ (hS := trivial)
 try simp only [Act.put, sA, s0, s1]
 refine sy 3 15 rfl rfl ?_ (hS := trivial)
 try simp only [Act.put, sA, s0, s1]
 refine sy 4 16 rfl rfl ?_ (hS := trivial)
 try simp only [Act.put, sA, s0, s1]
 refine sy 8 20 rfl rfl ?_ (hS := trivial)
 try simp only [Act.put, sA, s0, s1]
 refine sy 9 21 rfl rfl ?_ (hS := trivial)
 try simp only [Act.put, sA, s0, s1]
 refine sy 10 22 rfl rfl ?_ (hS := trivial)
 try simp only [Act.put, sA, s0, s1]
 refine wpAnyH_ready (rs := [5, 11]) (by kernel_rfl) (by simp) ?_
 refine AllReadyH.cons rfl (fun K hK => ?_) (AllReadyH.cons rfl (fun K hK => ?_) AllReadyH.nil)
 ·
  skip
  replace hK := h_ hK
  have z3 := cell_of HB.out 3
  simp only [gA, gY, gZ] at z3
  go_simp; clear z3 hHeld
  refine hK.out _ _ trivial (fun hHeld => ?_)
  clear hK K; try simp only [Act.put, sA, s0, s1]
  refine sy 6 18 rfl rfl ?_ (hS := trivial)
  try simp only [Act.put, sA, s0, s1]
  refine wpAnyH_ready (rs := [7, 11]) (by kernel_rfl) (by simp) ?_
  refine AllReadyH.cons rfl (fun K hK => ?_) (AllReadyH.cons rfl (fun K hK => ?_) AllReadyH.nil)
  ·
   skip
   replace hK := h_ hK
   obtain ⟨y0, y1, y2⟩ := Y.out
   go_simp; clear y0 y1 y2 hHeld
   refine hK.out _ _ trivial (fun hHeld => ?_)
   clear hK K; try simp only [Act.put, sA, s0, s1]
   refine on1 11 rfl (fun K hK => ?_)
   have z3 := cell_of HB.out 3
   simp only [gA, gY, gZ] at z3
   go_simp; clear z3 hHeld
   refine hK.out _ _ trivial (fun hHeld => ?_)
   clear hK K; try simp only [Act.put, sA, s0, s1]
   refine sy 12 24 rfl rfl ?_ (hS := trivial)
   try simp only [Act.put, sA, s0, s1]
   refine sy 13 25 rfl rfl ?_ (hS := trivial)
   try simp only [Act.put, sA, s0, s1]
   refine sy 14 26 rfl rfl ?_ (hS := trivial)
   try simp only [Act.put, sA, s0, s1]
   refine on1 15 rfl (fun K hK => ?_)
   have z0 := cell_of HB.out 0
   have z1 := cell_of HB.out 1
   have z2 := cell_of HB.out 2
   have fz0 := free_of HB.out 0
   have fz1 := free_of HB.out 1
   have fz2 := free_of HB.out 2
   simp only [gA, gY, gZ] at z0 z1 z2
   have p0 := heap_setCell_same wd g 0 _ _ (.int .i64 x.1) HB.out
   have p1 := heap_setCell_same (wd.setCell ⟨g, 0, none⟩ (.int .i64 x.1)) g 1 _ _ (.int .i64 x.2.1) p0
   have p2 := heap_setCell_same ((wd.setCell ⟨g, 0, none⟩ (.int .i64 x.1)).setCell ⟨g, 1, none⟩ (.int .i64 x.2.1)) g 2 _ _ (.int .i64 x.2.2) p1
   simp only [sA, s0, s1] at p2
   have HP := h_ p2
   clear p0 p1 p2; go_simp; clear hHeld z0 fz0 z1 fz1 z2 fz2
   refine hK.out _ _ trivial (fun hHeld => ?_)
   clear hK K; try simp only [Act.put, sA, s0, s1]
   refine sy 16 27 rfl rfl ?_ (hS := trivial)
   try simp only [Act.put, sA, s0, s1]
   refine sy 17 28 rfl rfl ?_ (hS := trivial)
   try simp only [Act.put, sA, s0, s1]
   refine on1 18 rfl (fun K hK => ?_)
   have z3 := cell_of HP.out 3
   have fz3 := free_of HP.out 3
   simp only [gA, gY, gZ] at z3
   go_simp; clear hHeld z3 fz3
   refine hK.out _ _ trivial (fun hHeld => ?_)
   clear hK K; try simp only [Act.put, sA, s0, s1]
   refine wpAnyH_done (by kernel_rfl) ?_ _
   have HQ := heap_setCell_same _ g 3 _ _ (.slice AD r.length (c - 1)) HP.out
   simp only [sA, s0, s1] at HQ
   have CQ := h_ (((((Chg.refl [g] wd).setCell (p := ⟨g, 0, none⟩) (.inl (by simp)) (.int .i64 x.1)).setCell (p := ⟨g, 1, none⟩) (.inl (by simp)) (.int .i64 x.2.1)).setCell (p := ⟨g, 2, none⟩) (.inl (by simp)) (.int .i64 x.2.2)).setCell (p := ⟨g, 3, none⟩) (.inl (by simp)) (.slice AD r.length (c - 1)))
   have HQ2 := h_ HQ
   clear HQ; go_wp2
   go_end0
   exact ⟨rfl, AD, c - 1, HQ2.out, HT.out.chg CQ.out (fun a ha => by rw [AB.out a ha]; simpa using NB.out), by have := HN.out; omega, fun a ha => by (first | exact ⟨_, rfl, AB.out a ha⟩ | exact AB.out a ha | simpa using AB.out a ha), CD.out.trans CQ.out⟩
  ·
   skip
   replace hK := h_ hK
   have z3 := cell_of HB.out 3
   simp only [gA, gY, gZ] at z3
   go_simp; clear z3 hHeld
   refine hK.out _ _ trivial (fun hHeld => ?_)
   clear hK K; try simp only [Act.put, sA, s0, s1]
   refine sy 12 24 rfl rfl ?_ (hS := trivial)
   try simp only [Act.put, sA, s0, s1]
   refine on1 7 rfl (fun K hK => ?_)
   obtain ⟨y0, y1, y2⟩ := Y.out
   go_simp; clear y0 y1 y2 hHeld
   refine hK.out _ _ trivial (fun hHeld => ?_)
   clear hK K; try simp only [Act.put, sA, s0, s1]
   refine sy 13 25 rfl rfl ?_ (hS := trivial)
   try simp only [Act.put, sA, s0, s1]
   refine sy 14 26 rfl rfl ?_ (hS := trivial)
   try simp only [Act.put, sA, s0, s1]
   refine on1 15 rfl (fun K hK => ?_)
   have z0 := cell_of HB.out 0
   have z1 := cell_of HB.out 1
   have z2 := cell_of HB.out 2
   have fz0 := free_of HB.out 0
   have fz1 := free_of HB.out 1
   have fz2 := free_of HB.out 2
   simp only [gA, gY, gZ] at z0 z1 z2
   have p0 := heap_setCell_same wd g 0 _ _ (.int .i64 x.1) HB.out
   have p1 := heap_setCell_same (wd.setCell ⟨g, 0, none⟩ (.int .i64 x.1)) g 1 _ _ (.int .i64 x.2.1) p0
   have p2 := heap_setCell_same ((wd.setCell ⟨g, 0, none⟩ (.int .i64 x.1)).setCell ⟨g, 1, none⟩ (.int .i64 x.2.1)) g 2 _ _ (.int .i64 x.2.2) p1
   simp only [sA, s0, s1] at p2
   have HP := h_ p2
   clear p0 p1 p2; go_simp; clear hHeld z0 fz0 z1 fz1 z2 fz2
   refine hK.out _ _ trivial (fun hHeld => ?_)
   clear hK K; try simp only [Act.put, sA, s0, s1]
   refine sy 16 27 rfl rfl ?_ (hS := trivial)
   try simp only [Act.put, sA, s0, s1]
   refine sy 17 28 rfl rfl ?_ (hS := trivial)
   try simp only [Act.put, sA, s0, s1]
   refine on1 18 rfl (fun K hK => ?_)
   have z3 := cell_of HP.out 3
   have fz3 := free_of HP.out 3
   simp only [gA, gY, gZ] at z3
   go_simp; clear hHeld z3 fz3
   refine hK.out _ _ trivial (fun hHeld => ?_)
   clear hK K; try simp only [Act.put, sA, s0, s1]
   refine wpAnyH_done (by kernel_rfl) ?_ _
   have HQ := heap_setCell_same _ g 3 _ _ (.slice AD r.length (c - 1)) HP.out
   simp only [sA, s0, s1] at HQ
   have CQ := h_ (((((Chg.refl [g] wd).setCell (p := ⟨g, 0, none⟩) (.inl (by simp)) (.int .i64 x.1)).setCell (p := ⟨g, 1, none⟩) (.inl (by simp)) (.int .i64 x.2.1)).setCell (p := ⟨g, 2, none⟩) (.inl (by simp)) (.int .i64 x.2.2)).setCell (p := ⟨g, 3, none⟩) (.inl (by simp)) (.slice AD r.length (c - 1)))
   have HQ2 := h_ HQ
   clear HQ; go_wp2
   go_end0
   exact ⟨rfl, AD, c - 1, HQ2.out, HT.out.chg CQ.out (fun a ha => by rw [AB.out a ha]; simpa using NB.out), by have := HN.out; omega, fun a ha => by (first | exact ⟨_, rfl, AB.out a ha⟩ | exact AB.out a ha | simpa using AB.out a ha), CD.out.trans CQ.out⟩
 ·
  skip
  replace hK := h_ hK
  have z3 := cell_of HB.out 3
  simp only [gA, gY, gZ] at z3
  go_simp; clear z3 hHeld
  refine hK.out _ _ trivial (fun hHeld => ?_)
  clear hK K; try simp only [Act.put, sA, s0, s1]
  refine sy 12 24 rfl rfl ?_ (hS := trivial)
  try simp only [Act.put, sA, s0, s1]
  refine on1 5 rfl (fun K hK => ?_)
  have z3 := cell_of HB.out 3
  simp only [gA, gY, gZ] at z3
  go_simp; clear z3 hHeld
  refine hK.out _ _ trivial (fun hHeld => ?_)
  clear hK K; try simp only [Act.put, sA, s0, s1]
  refine sy 6 18 rfl rfl ?_ (hS := trivial)
  try simp only [Act.put, sA, s0, s1]
  refine on1 7 rfl (fun K hK => ?_)
  obtain ⟨y0, y1, y2⟩ := Y.out
  go_simp; clear y0 y1 y2 hHeld
  refine hK.out _ _ trivial (fun hHeld => ?_)
  clear hK K; try simp only [Act.put, sA, s0, s1]
  refine sy 13 25 rfl rfl ?_ (hS := trivial)
  try simp only [Act.put, sA, s0, s1]
  refine sy 14 26 rfl rfl ?_ (hS := trivial)
  try simp only [Act.put, sA, s0, s1]
  refine on1 15 rfl (fun K hK => ?_)
  have z0 := cell_of HB.out 0
  have z1 := cell_of HB.out 1
  have z2 := cell_of HB.out 2
  have fz0 := free_of HB.out 0
  have fz1 := free_of HB.out 1
  have fz2 := free_of HB.out 2
  simp only [gA, gY, gZ] at z0 z1 z2
  have p0 := heap_setCell_same wd g 0 _ _ (.int .i64 x.1) HB.out
  have p1 := heap_setCell_same (wd.setCell ⟨g, 0, none⟩ (.int .i64 x.1)) g 1 _ _ (.int .i64 x.2.1) p0
  have p2 := heap_setCell_same ((wd.setCell ⟨g, 0, none⟩ (.int .i64 x.1)).setCell ⟨g, 1, none⟩ (.int .i64 x.2.1)) g 2 _ _ (.int .i64 x.2.2) p1
  simp only [sA, s0, s1] at p2
  have HP := h_ p2
  clear p0 p1 p2; go_simp; clear hHeld z0 fz0 z1 fz1 z2 fz2
  refine hK.out _ _ trivial (fun hHeld => ?_)
  clear hK K; try simp only [Act.put, sA, s0, s1]
  refine sy 16 27 rfl rfl ?_ (hS := trivial)
  try simp only [Act.put, sA, s0, s1]
  refine sy 17 28 rfl rfl ?_ (hS := trivial)
  try simp only [Act.put, sA, s0, s1]
  refine on1 18 rfl (fun K hK => ?_)
  have z3 := cell_of HP.out 3
  have fz3 := free_of HP.out 3
  simp only [gA, gY, gZ] at z3
  go_simp; clear hHeld z3 fz3
  refine hK.out _ _ trivial (fun hHeld => ?_)
  clear hK K; try simp only [Act.put, sA, s0, s1]
  refine wpAnyH_done (by kernel_rfl) ?_ _
  have HQ := heap_setCell_same _ g 3 _ _ (.slice AD r.length (c - 1)) HP.out
  simp only [sA, s0, s1] at HQ
  have CQ := h_ (((((Chg.refl [g] wd).setCell (p := ⟨g, 0, none⟩) (.inl (by simp)) (.int .i64 x.1)).setCell (p := ⟨g, 1, none⟩) (.inl (by simp)) (.int .i64 x.2.1)).setCell (p := ⟨g, 2, none⟩) (.inl (by simp)) (.int .i64 x.2.2)).setCell (p := ⟨g, 3, none⟩) (.inl (by simp)) (.slice AD r.length (c - 1)))
  have HQ2 := h_ HQ
  clear HQ; go_wp2
  go_end0
  exact ⟨rfl, AD, c - 1, HQ2.out, HT.out.chg CQ.out (fun a ha => by rw [AB.out a ha]; simpa using NB.out), by have := HN.out; omega, fun a ha => by (first | exact ⟨_, rfl, AB.out a ha⟩ | exact AB.out a ha | simpa using AB.out a ha), CD.out.trans CQ.out⟩
end
section
open Go.RowKit Go.Lib


set_option maxRecDepth 100000 in
theorem pass_a (w : World) (g : Nat) (v0 v1 v2 v3 vk : Value) (B : Option Addr) (c : Nat) (x : Sp) (r : List Sp) (tt : Int) (hto : 0 ≤ tt ∧ tt ≤ 2147483647) (hb : w.heap[g]? = some (.cells #[.int .i64 x.1, .int .i64 x.2.1, .int .i64 x.2.2, .slice B r.length c, v0, v1, v2, v3, vk] 214 (0, 0))) (hr : RdK spanTy w B r.length r) (hn : r.length ≤ c ∧ c ≤ maxLen) (hB : ∀ a, B = some a → a.block ≠ g) :
  Calls Tryz.prog 210 #[.pointer (some ⟨g, 0, none⟩), .int .i64 tt] w fun e w' => e = .returned (.tuple #[]) ∧ ∃ B' c', w'.heap[g]? = some (.cells #[.int .i64 (hdP (passP (x :: r) tt)).1, .int .i64 (hdP (passP (x :: r) tt)).2.1, .int .i64 (hdP (passP (x :: r) tt)).2.2, .slice B' (passP (x :: r) tt).tail.length c', v0, v1, v2, v3, vk] 214 (0, 0)) ∧ RdK spanTy w' B' (passP (x :: r) tt).tail.length (passP (x :: r) tt).tail ∧ ((passP (x :: r) tt).tail.length ≤ c' ∧ c' ≤ maxLen) ∧ (∀ a, B' = some a → ∃ b, B = some b ∧ a.block = b.block) ∧ Chg [g] w w' := by
 have HB := h_ hb
 have HR := h_ hr
 have HN := h_ hn
 have NB := h_ hB
 clear hb hr hn hB
 have e1 : IntKind.i64.wrap (tt + 1) = tt + 1 := IntWalk.i64_in _ (by omega)
 by_cases hlt : tt < x.2.2
 ·
  have hp : passP (x :: r) tt = (x.1, tt + 1, x.2.2) :: r := by unfold passP; simp only; rw [if_pos hlt]
  rw [hp]
  simp only [hd_cons, List.tail_cons]
  have HLT := hlt
  clear hp
  go_enter Tryz.func210, Tryz.ntmps210
  have z0 := cell_of HB.out 0
  have z1 := cell_of HB.out 1
  have z2 := cell_of HB.out 2
  have z3 := cell_of HB.out 3
  have fz1 := free_of HB.out 1
  simp only [gA, gY, gZ] at z0 z1 z2 z3
  have HQ := heap_setCell_same w g 1 _ _ (.int .i64 (tt + 1)) HB.out
  simp only [sA, s0, s1] at HQ
  have HP := h_ HQ
  have CP := h_ ((Chg.refl [g] w).setCell (p := ⟨g, 1, none⟩) (.inl (by simp)) (.int .i64 (tt + 1)))
  clear HQ; go_wp2
  refine bodyPost_ret (results_none rfl _ _ _) rfl ?_
  exact ⟨rfl, B, c, HP.out, HR.out.chg CP.out (fun a ha => by simpa using NB.out a ha), HN.out, fun a ha => ⟨a, ha, rfl⟩, CP.out⟩
 ·
  have hp : passP (x :: r) tt = r := by unfold passP; simp only; rw [if_neg hlt]
  rw [hp]
  clear hp
  cases r with
  | nil =>
   go_enter Tryz.func210, Tryz.ntmps210
   obtain ⟨z0, z1, z2, z3⟩ := ce4 HB.out
   go_wp2_with fail; clear z0 z1 z2 z3
   refine (next_none_a w g v0 v1 v2 v3 vk _ _ _ B c HB.out).mono ?_
   rintro e w' ⟨rfl, h1, h2⟩
   have HP := h_ h1
   have CP := h_ h2
   clear h1 h2; go_wp2
   go_end0
   exact ⟨rfl, B, c, HP.out, RdK.nil _ _, ⟨Nat.zero_le _, HN.out.2⟩, fun a ha => ⟨a, ha, rfl⟩, CP.out⟩
  | cons y r2 =>
   go_enter Tryz.func210, Tryz.ntmps210
   obtain ⟨z0, z1, z2, z3⟩ := ce4 HB.out
   go_wp2_with fail; clear z0 z1 z2 z3
   refine (next_some_a w g v0 v1 v2 v3 vk _ _ _ B c y r2 HB.out HR.out HN.out NB.out).mono ?_
   rintro e w' ⟨rfl, B2, c2, h1, h2, h3, h4, h5⟩
   have HP := h_ h1
   have CP := h_ h5
   have H2 := h_ h2
   have H3 := h_ h3
   have H4 := h_ h4
   clear h1 h2 h3 h4 h5; go_wp2
   go_end0
   exact ⟨rfl, B2, c2, HP.out, H2.out, H3.out, H4.out, CP.out⟩
end
section
open Go.RowKit Go.Lib


set_option maxRecDepth 100000 in
theorem next_none_b (w : World) (g : Nat) (v0 v1 v2 v3 vk : Value) (h0 h1 h2 : Value) (B : Option Addr) (c : Nat) (hb : w.heap[g]? = some (.cells #[v0, v1, v2, v3, h0, h1, h2, .slice B 0 c, vk] 214 (0, 0))) :
  Calls Tryz.prog 208 #[.pointer (some ⟨g, 4, none⟩)] w fun e w' => e = .returned (.tuple #[]) ∧ w'.heap[g]? = some (.cells #[v0, v1, v2, v3, .int .i64 201, .int .i64 0, .int .i64 0, .slice B 0 c, vk] 214 (0, 0)) ∧ Chg [g] w w' := by
 have HB := h_ hb
 clear hb
 go_enter Tryz.func208, Tryz.ntmps208
 have z4 := cell_of HB.out 4
 have z5 := cell_of HB.out 5
 have z6 := cell_of HB.out 6
 have z7 := cell_of HB.out 7
 have fz4 := free_of HB.out 4
 have fz5 := free_of HB.out 5
 have fz6 := free_of HB.out 6
 simp only [gA, gY, gZ] at z4 z5 z6 z7
 have p0 := heap_setCell_same w g 4 _ _ (.int .i64 201) HB.out
 have p1 := heap_setCell_same (w.setCell ⟨g, 4, none⟩ (.int .i64 201)) g 5 _ _ (.int .i64 0) p0
 have p2 := heap_setCell_same ((w.setCell ⟨g, 4, none⟩ (.int .i64 201)).setCell ⟨g, 5, none⟩ (.int .i64 0)) g 6 _ _ (.int .i64 0) p1
 simp only [sA, s0, s1] at p2
 have HP := h_ p2
 have CP := h_ ((((Chg.refl [g] w).setCell (p := ⟨g, 4, none⟩) (.inl (by simp)) (.int .i64 201)).setCell (p := ⟨g, 5, none⟩) (.inl (by simp)) (.int .i64 0)).setCell (p := ⟨g, 6, none⟩) (.inl (by simp)) (.int .i64 0))
 clear p0 p1 p2; go_wp2
 refine bodyPost_ret (results_none rfl _ _ _) rfl ?_
 exact ⟨rfl, HP.out, CP.out⟩
set_option maxRecDepth 100000 in
theorem next_some_b (w : World) (g : Nat) (v0 v1 v2 v3 vk : Value) (h0 h1 h2 : Value) (B : Option Addr) (c : Nat) (x : Sp) (r : List Sp) (hb : w.heap[g]? = some (.cells #[v0, v1, v2, v3, h0, h1, h2, .slice B (r.length + 1) c, vk] 214 (0, 0))) (hr : RdK spanTy w B (r.length + 1) (x :: r)) (hn : r.length + 1 ≤ c ∧ c ≤ maxLen) (hB : ∀ a, B = some a → a.block ≠ g) :
  Calls Tryz.prog 208 #[.pointer (some ⟨g, 4, none⟩)] w fun e w' => e = .returned (.tuple #[]) ∧ ∃ B' c', w'.heap[g]? = some (.cells #[v0, v1, v2, v3, .int .i64 x.1, .int .i64 x.2.1, .int .i64 x.2.2, (.slice B' r.length c'), vk] 214 (0, 0)) ∧ RdK spanTy w' B' r.length r ∧ (r.length ≤ c' ∧ c' ≤ maxLen) ∧ (∀ a, B' = some a → ∃ b, B = some b ∧ a.block = b.block) ∧ Chg [g] w w' := by
 obtain ⟨gB, oB, eB, _⟩ := hr.line (by omega)
 subst eB
 have HR := h_ hr
 have HN := h_ hn
 have NB := h_ (hB ⟨gB, oB, none⟩ rfl)
 obtain ⟨y0, y1, y2⟩ := spanCells hr (j := 0) (x := x) rfl
 rw [Nat.zero_mul, Nat.add_zero] at y0 y1 y2
 have HB := h_ hb
 have Y := h_ (show w.cell? ⟨gB, oB, none⟩ = some (.int .i64 x.1) ∧ w.cell? ⟨gB, oB + 1, none⟩ = some (.int .i64 x.2.1) ∧ w.cell? ⟨gB, oB + 2, none⟩ = some (.int .i64 x.2.2) from ⟨y0, y1, y2⟩)
 clear hb hr hn y0 y1 y2 hB
 have n0 : (((r.length + 1 : Nat) : Int) == 0) = false := by simp; omega
 have n1 : (0 : Int) < ((r.length + 1 : Nat) : Int) := by omega
 have n2 : (1 : Int) ≤ ((r.length + 1 : Nat) : Int) := by omega
 have n3 : ((r.length + 1 : Nat) : Int) ≤ (c : Int) := by have := HN.out; omega
 have n5 : (1 : Int) ≤ (r.length : Int) + 1 := by omega
 have n4 : r.length + 1 - 1 = r.length := by omega
 have HT : Hid (RdK spanTy w (if c = 1 then some ⟨gB, oB, none⟩ else some ⟨gB, oB + 3, none⟩) r.length r) := h_ (by
  split
  ·
   have := HN.out
   have e : r = [] := List.eq_nil_of_length_eq_zero (by omega)
   subst e
   exact RdK.nil _ _
  ·
   have q := HR.out.part 1 r.length (by omega)
   simpa [RowTy.k, spanTy] using q)
 go_enter Tryz.func208, Tryz.ntmps208
 have z7 := cell_of HB.out 7
 simp only [gA, gY, gZ] at z7
 go_upto_region 2 with fail
 clear z7
 refine wp_region_held_drew (S := fun _ => True) (by kernel_rfl) trivial (fun hHeld => ?_)
 have CD := h_ (Chg.refl [g] w).drew
 replace HB := h_ (show w.drew.heap[g]? = some _ from HB.out)
 replace Y := h_ (show w.drew.cell? ⟨gB, oB, none⟩ = some (.int .i64 x.1) ∧ w.drew.cell? ⟨gB, oB + 1, none⟩ = some (.int .i64 x.2.1) ∧ w.drew.cell? ⟨gB, oB + 2, none⟩ = some (.int .i64 x.2.2) from Y.out)
 replace HT := h_ (show RdK spanTy w.drew _ r.length r from HT.out.chg (Chg.refl [] w).drew (by simp))
 generalize w.drew = wd at *
 generalize hAD : (if c = 1 then some ⟨gB, oB, none⟩ else some ⟨gB, oB + 3, none⟩ : Option Addr) = AD at *
 have AB : Hid (∀ a, AD = some a → a.block = gB) := h_ (by intro a ha; rw [← hAD] at ha; split at ha <;> cases ha <;> rfl)
 refine sy 0 12 rfl rfl ?_ (hS := trivial)
 try simp only [Act.put, sA, s0, s1]
 refine sy 1 13 rfl rfl ?_ (hS := trivial)
 try simp only [Act.put, sA, s0, s1]
 refine sy 2 14 rfl rfl ?_ (hS := trivial)
 try simp only [Act.put, sA, s0, s1]
 refine sy 3 15 rfl rfl ?_ (hS := trivial)
 try simp only [Act.put, sA, s0, s1]
 refine sy 4 16 rfl rfl ?_ (hS := trivial)
 try simp only [Act.put, sA, s0, s1]
 refine sy 8 20 rfl rfl ?_ (hS := trivial)
 try simp only [Act.put, sA, s0, s1]
 refine sy 9 21 rfl rfl ?_ (hS := trivial)
 try simp only [Act.put, sA, s0, s1]
 refine sy 10 22 rfl rfl ?_ (hS := trivial)
 try simp only [Act.put, sA, s0, s1]
 refine wpAnyH_ready (rs := [5, 11]) (by kernel_rfl) (by simp) ?_
 refine AllReadyH.cons rfl (fun K hK => ?_) (AllReadyH.cons rfl (fun K hK => ?_) AllReadyH.nil)
 ·
  skip
  replace hK := h_ hK
  have z7 := cell_of HB.out 7
  simp only [gA, gY, gZ] at z7
  go_simp; clear z7 hHeld
  refine hK.out _ _ trivial (fun hHeld => ?_)
  clear hK K; try simp only [Act.put, sA, s0, s1]
  refine sy 6 18 rfl rfl ?_ (hS := trivial)
  try simp only [Act.put, sA, s0, s1]
  refine wpAnyH_ready (rs := [7, 11]) (by kernel_rfl) (by simp) ?_
  refine AllReadyH.cons rfl (fun K hK => ?_) (AllReadyH.cons rfl (fun K hK => ?_) AllReadyH.nil)
  ·
   skip
   replace hK := h_ hK
   obtain ⟨y0, y1, y2⟩ := Y.out
   go_simp; clear y0 y1 y2 hHeld
   refine hK.out _ _ trivial (fun hHeld => ?_)
   clear hK K; try simp only [Act.put, sA, s0, s1]
   refine on1 11 rfl (fun K hK => ?_)
   have z7 := cell_of HB.out 7
   simp only [gA, gY, gZ] at z7
   go_simp; clear z7 hHeld
   refine hK.out _ _ trivial (fun hHeld => ?_)
   clear hK K; try simp only [Act.put, sA, s0, s1]
   refine sy 12 24 rfl rfl ?_ (hS := trivial)
   try simp only [Act.put, sA, s0, s1]
   refine sy 13 25 rfl rfl ?_ (hS := trivial)
   try simp only [Act.put, sA, s0, s1]
   refine sy 14 26 rfl rfl ?_ (hS := trivial)
   try simp only [Act.put, sA, s0, s1]
   refine on1 15 rfl (fun K hK => ?_)
   have z4 := cell_of HB.out 4
   have z5 := cell_of HB.out 5
   have z6 := cell_of HB.out 6
   have fz4 := free_of HB.out 4
   have fz5 := free_of HB.out 5
   have fz6 := free_of HB.out 6
   simp only [gA, gY, gZ] at z4 z5 z6
   have p0 := heap_setCell_same wd g 4 _ _ (.int .i64 x.1) HB.out
   have p1 := heap_setCell_same (wd.setCell ⟨g, 4, none⟩ (.int .i64 x.1)) g 5 _ _ (.int .i64 x.2.1) p0
   have p2 := heap_setCell_same ((wd.setCell ⟨g, 4, none⟩ (.int .i64 x.1)).setCell ⟨g, 5, none⟩ (.int .i64 x.2.1)) g 6 _ _ (.int .i64 x.2.2) p1
   simp only [sA, s0, s1] at p2
   have HP := h_ p2
   clear p0 p1 p2; go_simp; clear hHeld z4 fz4 z5 fz5 z6 fz6
   refine hK.out _ _ trivial (fun hHeld => ?_)
   clear hK K; try simp only [Act.put, sA, s0, s1]
   refine sy 16 27 rfl rfl ?_ (hS := trivial)
   try simp only [Act.put, sA, s0, s1]
   refine sy 17 28 rfl rfl ?_ (hS := trivial)
   try simp only [Act.put, sA, s0, s1]
   refine on1 18 rfl (fun K hK => ?_)
   have z7 := cell_of HP.out 7
   have fz7 := free_of HP.out 7
   simp only [gA, gY, gZ] at z7
   go_simp; clear hHeld z7 fz7
   refine hK.out _ _ trivial (fun hHeld => ?_)
   clear hK K; try simp only [Act.put, sA, s0, s1]
   refine wpAnyH_done (by kernel_rfl) ?_ _
   have HQ := heap_setCell_same _ g 7 _ _ (.slice AD r.length (c - 1)) HP.out
   simp only [sA, s0, s1] at HQ
   have CQ := h_ (((((Chg.refl [g] wd).setCell (p := ⟨g, 4, none⟩) (.inl (by simp)) (.int .i64 x.1)).setCell (p := ⟨g, 5, none⟩) (.inl (by simp)) (.int .i64 x.2.1)).setCell (p := ⟨g, 6, none⟩) (.inl (by simp)) (.int .i64 x.2.2)).setCell (p := ⟨g, 7, none⟩) (.inl (by simp)) (.slice AD r.length (c - 1)))
   have HQ2 := h_ HQ
   clear HQ; go_wp2
   go_end0
   exact ⟨rfl, AD, c - 1, HQ2.out, HT.out.chg CQ.out (fun a ha => by rw [AB.out a ha]; simpa using NB.out), by have := HN.out; omega, fun a ha => by (first | exact ⟨_, rfl, AB.out a ha⟩ | exact AB.out a ha | simpa using AB.out a ha), CD.out.trans CQ.out⟩
  ·
   skip
   replace hK := h_ hK
   have z7 := cell_of HB.out 7
   simp only [gA, gY, gZ] at z7
   go_simp; clear z7 hHeld
   refine hK.out _ _ trivial (fun hHeld => ?_)
   clear hK K; try simp only [Act.put, sA, s0, s1]
   refine sy 12 24 rfl rfl ?_ (hS := trivial)
   try simp only [Act.put, sA, s0, s1]
   refine on1 7 rfl (fun K hK => ?_)
   obtain ⟨y0, y1, y2⟩ := Y.out
   go_simp; clear y0 y1 y2 hHeld
   refine hK.out _ _ trivial (fun hHeld => ?_)
   clear hK K; try simp only [Act.put, sA, s0, s1]
   refine sy 13 25 rfl rfl ?_ (hS := trivial)
   try simp only [Act.put, sA, s0, s1]
   refine sy 14 26 rfl rfl ?_ (hS := trivial)
   try simp only [Act.put, sA, s0, s1]
   refine on1 15 rfl (fun K hK => ?_)
   have z4 := cell_of HB.out 4
   have z5 := cell_of HB.out 5
   have z6 := cell_of HB.out 6
   have fz4 := free_of HB.out 4
   have fz5 := free_of HB.out 5
   have fz6 := free_of HB.out 6
   simp only [gA, gY, gZ] at z4 z5 z6
   have p0 := heap_setCell_same wd g 4 _ _ (.int .i64 x.1) HB.out
   have p1 := heap_setCell_same (wd.setCell ⟨g, 4, none⟩ (.int .i64 x.1)) g 5 _ _ (.int .i64 x.2.1) p0
   have p2 := heap_setCell_same ((wd.setCell ⟨g, 4, none⟩ (.int .i64 x.1)).setCell ⟨g, 5, none⟩ (.int .i64 x.2.1)) g 6 _ _ (.int .i64 x.2.2) p1
   simp only [sA, s0, s1] at p2
   have HP := h_ p2
   clear p0 p1 p2; go_simp; clear hHeld z4 fz4 z5 fz5 z6 fz6
   refine hK.out _ _ trivial (fun hHeld => ?_)
   clear hK K; try simp only [Act.put, sA, s0, s1]
   refine sy 16 27 rfl rfl ?_ (hS := trivial)
   try simp only [Act.put, sA, s0, s1]
   refine sy 17 28 rfl rfl ?_ (hS := trivial)
   try simp only [Act.put, sA, s0, s1]
   refine on1 18 rfl (fun K hK => ?_)
   have z7 := cell_of HP.out 7
   have fz7 := free_of HP.out 7
   simp only [gA, gY, gZ] at z7
   go_simp; clear hHeld z7 fz7
   refine hK.out _ _ trivial (fun hHeld => ?_)
   clear hK K; try simp only [Act.put, sA, s0, s1]
   refine wpAnyH_done (by kernel_rfl) ?_ _
   have HQ := heap_setCell_same _ g 7 _ _ (.slice AD r.length (c - 1)) HP.out
   simp only [sA, s0, s1] at HQ
   have CQ := h_ (((((Chg.refl [g] wd).setCell (p := ⟨g, 4, none⟩) (.inl (by simp)) (.int .i64 x.1)).setCell (p := ⟨g, 5, none⟩) (.inl (by simp)) (.int .i64 x.2.1)).setCell (p := ⟨g, 6, none⟩) (.inl (by simp)) (.int .i64 x.2.2)).setCell (p := ⟨g, 7, none⟩) (.inl (by simp)) (.slice AD r.length (c - 1)))
   have HQ2 := h_ HQ
   clear HQ; go_wp2
   go_end0
   exact ⟨rfl, AD, c - 1, HQ2.out, HT.out.chg CQ.out (fun a ha => by rw [AB.out a ha]; simpa using NB.out), by have := HN.out; omega, fun a ha => by (first | exact ⟨_, rfl, AB.out a ha⟩ | exact AB.out a ha | simpa using AB.out a ha), CD.out.trans CQ.out⟩
 ·
  skip
  replace hK := h_ hK
  have z7 := cell_of HB.out 7
  simp only [gA, gY, gZ] at z7
  go_simp; clear z7 hHeld
  refine hK.out _ _ trivial (fun hHeld => ?_)
  clear hK K; try simp only [Act.put, sA, s0, s1]
  refine sy 12 24 rfl rfl ?_ (hS := trivial)
  try simp only [Act.put, sA, s0, s1]
  refine on1 5 rfl (fun K hK => ?_)
  have z7 := cell_of HB.out 7
  simp only [gA, gY, gZ] at z7
  go_simp; clear z7 hHeld
  refine hK.out _ _ trivial (fun hHeld => ?_)
  clear hK K; try simp only [Act.put, sA, s0, s1]
  refine sy 6 18 rfl rfl ?_ (hS := trivial)
  try simp only [Act.put, sA, s0, s1]
  refine on1 7 rfl (fun K hK => ?_)
  obtain ⟨y0, y1, y2⟩ := Y.out
  go_simp; clear y0 y1 y2 hHeld
  refine hK.out _ _ trivial (fun hHeld => ?_)
  clear hK K; try simp only [Act.put, sA, s0, s1]
  refine sy 13 25 rfl rfl ?_ (hS := trivial)
  try simp only [Act.put, sA, s0, s1]
  refine sy 14 26 rfl rfl ?_ (hS := trivial)
  try simp only [Act.put, sA, s0, s1]
  refine on1 15 rfl (fun K hK => ?_)
  have z4 := cell_of HB.out 4
  have z5 := cell_of HB.out 5
  have z6 := cell_of HB.out 6
  have fz4 := free_of HB.out 4
  have fz5 := free_of HB.out 5
  have fz6 := free_of HB.out 6
  simp only [gA, gY, gZ] at z4 z5 z6
  have p0 := heap_setCell_same wd g 4 _ _ (.int .i64 x.1) HB.out
  have p1 := heap_setCell_same (wd.setCell ⟨g, 4, none⟩ (.int .i64 x.1)) g 5 _ _ (.int .i64 x.2.1) p0
  have p2 := heap_setCell_same ((wd.setCell ⟨g, 4, none⟩ (.int .i64 x.1)).setCell ⟨g, 5, none⟩ (.int .i64 x.2.1)) g 6 _ _ (.int .i64 x.2.2) p1
  simp only [sA, s0, s1] at p2
  have HP := h_ p2
  clear p0 p1 p2; go_simp; clear hHeld z4 fz4 z5 fz5 z6 fz6
  refine hK.out _ _ trivial (fun hHeld => ?_)
  clear hK K; try simp only [Act.put, sA, s0, s1]
  refine sy 16 27 rfl rfl ?_ (hS := trivial)
  try simp only [Act.put, sA, s0, s1]
  refine sy 17 28 rfl rfl ?_ (hS := trivial)
  try simp only [Act.put, sA, s0, s1]
  refine on1 18 rfl (fun K hK => ?_)
  have z7 := cell_of HP.out 7
  have fz7 := free_of HP.out 7
  simp only [gA, gY, gZ] at z7
  go_simp; clear hHeld z7 fz7
  refine hK.out _ _ trivial (fun hHeld => ?_)
  clear hK K; try simp only [Act.put, sA, s0, s1]
  refine wpAnyH_done (by kernel_rfl) ?_ _
  have HQ := heap_setCell_same _ g 7 _ _ (.slice AD r.length (c - 1)) HP.out
  simp only [sA, s0, s1] at HQ
  have CQ := h_ (((((Chg.refl [g] wd).setCell (p := ⟨g, 4, none⟩) (.inl (by simp)) (.int .i64 x.1)).setCell (p := ⟨g, 5, none⟩) (.inl (by simp)) (.int .i64 x.2.1)).setCell (p := ⟨g, 6, none⟩) (.inl (by simp)) (.int .i64 x.2.2)).setCell (p := ⟨g, 7, none⟩) (.inl (by simp)) (.slice AD r.length (c - 1)))
  have HQ2 := h_ HQ
  clear HQ; go_wp2
  go_end0
  exact ⟨rfl, AD, c - 1, HQ2.out, HT.out.chg CQ.out (fun a ha => by rw [AB.out a ha]; simpa using NB.out), by have := HN.out; omega, fun a ha => by (first | exact ⟨_, rfl, AB.out a ha⟩ | exact AB.out a ha | simpa using AB.out a ha), CD.out.trans CQ.out⟩
end
section
open Go.RowKit Go.Lib


set_option maxRecDepth 100000 in
theorem pass_b (w : World) (g : Nat) (v0 v1 v2 v3 vk : Value) (B : Option Addr) (c : Nat) (x : Sp) (r : List Sp) (tt : Int) (hto : 0 ≤ tt ∧ tt ≤ 2147483647) (hb : w.heap[g]? = some (.cells #[v0, v1, v2, v3, .int .i64 x.1, .int .i64 x.2.1, .int .i64 x.2.2, .slice B r.length c, vk] 214 (0, 0))) (hr : RdK spanTy w B r.length r) (hn : r.length ≤ c ∧ c ≤ maxLen) (hB : ∀ a, B = some a → a.block ≠ g) :
  Calls Tryz.prog 210 #[.pointer (some ⟨g, 4, none⟩), .int .i64 tt] w fun e w' => e = .returned (.tuple #[]) ∧ ∃ B' c', w'.heap[g]? = some (.cells #[v0, v1, v2, v3, .int .i64 (hdP (passP (x :: r) tt)).1, .int .i64 (hdP (passP (x :: r) tt)).2.1, .int .i64 (hdP (passP (x :: r) tt)).2.2, .slice B' (passP (x :: r) tt).tail.length c', vk] 214 (0, 0)) ∧ RdK spanTy w' B' (passP (x :: r) tt).tail.length (passP (x :: r) tt).tail ∧ ((passP (x :: r) tt).tail.length ≤ c' ∧ c' ≤ maxLen) ∧ (∀ a, B' = some a → ∃ b, B = some b ∧ a.block = b.block) ∧ Chg [g] w w' := by
 have HB := h_ hb
 have HR := h_ hr
 have HN := h_ hn
 have NB := h_ hB
 clear hb hr hn hB
 have e1 : IntKind.i64.wrap (tt + 1) = tt + 1 := IntWalk.i64_in _ (by omega)
 by_cases hlt : tt < x.2.2
 ·
  have hp : passP (x :: r) tt = (x.1, tt + 1, x.2.2) :: r := by unfold passP; simp only; rw [if_pos hlt]
  rw [hp]
  simp only [hd_cons, List.tail_cons]
  have HLT := hlt
  clear hp
  go_enter Tryz.func210, Tryz.ntmps210
  have z4 := cell_of HB.out 4
  have z5 := cell_of HB.out 5
  have z6 := cell_of HB.out 6
  have z7 := cell_of HB.out 7
  have fz5 := free_of HB.out 5
  simp only [gA, gY, gZ] at z4 z5 z6 z7
  have HQ := heap_setCell_same w g 5 _ _ (.int .i64 (tt + 1)) HB.out
  simp only [sA, s0, s1] at HQ
  have HP := h_ HQ
  have CP := h_ ((Chg.refl [g] w).setCell (p := ⟨g, 5, none⟩) (.inl (by simp)) (.int .i64 (tt + 1)))
  clear HQ; go_wp2
  refine bodyPost_ret (results_none rfl _ _ _) rfl ?_
  exact ⟨rfl, B, c, HP.out, HR.out.chg CP.out (fun a ha => by simpa using NB.out a ha), HN.out, fun a ha => ⟨a, ha, rfl⟩, CP.out⟩
 ·
  have hp : passP (x :: r) tt = r := by unfold passP; simp only; rw [if_neg hlt]
  rw [hp]
  clear hp
  cases r with
  | nil =>
   go_enter Tryz.func210, Tryz.ntmps210
   have z4 := cell_of HB.out 4
   have z5 := cell_of HB.out 5
   have z6 := cell_of HB.out 6
   have z7 := cell_of HB.out 7
   simp only [gA, gY, gZ] at z4 z5 z6 z7
   go_wp2_with fail; clear z4 z5 z6 z7
   refine (next_none_b w g v0 v1 v2 v3 vk _ _ _ B c HB.out).mono ?_
   rintro e w' ⟨rfl, h1, h2⟩
   have HP := h_ h1
   have CP := h_ h2
   clear h1 h2; go_wp2
   go_end0
   exact ⟨rfl, B, c, HP.out, RdK.nil _ _, ⟨Nat.zero_le _, HN.out.2⟩, fun a ha => ⟨a, ha, rfl⟩, CP.out⟩
  | cons y r2 =>
   go_enter Tryz.func210, Tryz.ntmps210
   have z4 := cell_of HB.out 4
   have z5 := cell_of HB.out 5
   have z6 := cell_of HB.out 6
   have z7 := cell_of HB.out 7
   simp only [gA, gY, gZ] at z4 z5 z6 z7
   go_wp2_with fail; clear z4 z5 z6 z7
   refine (next_some_b w g v0 v1 v2 v3 vk _ _ _ B c y r2 HB.out HR.out HN.out NB.out).mono ?_
   rintro e w' ⟨rfl, B2, c2, h1, h2, h3, h4, h5⟩
   have HP := h_ h1
   have CP := h_ h5
   have H2 := h_ h2
   have H3 := h_ h3
   have H4 := h_ h4
   clear h1 h2 h3 h4 h5; go_wp2
   go_end0
   exact ⟨rfl, B2, c2, HP.out, H2.out, H3.out, H4.out, CP.out⟩
end
section
open Go.RowKit Go.Lib


set_option maxRecDepth 100000 in
theorem until_any (w : World) (x y : Sp) (hx : -2147483648 ≤ x.2.2 ∧ x.2.2 ≤ 2147483647) (hy : -2147483648 ≤ y.2.1 ∧ y.2.1 ≤ 2147483647) : Calls Tryz.prog 209 #[.agg #[.int .i64 x.1, .int .i64 x.2.1, .int .i64 x.2.2], .agg #[.int .i64 y.1, .int .i64 y.2.1, .int .i64 y.2.2]] w fun e w' => e = .returned (.agg #[.int .i64 (untilP x y).1, .int .i64 (untilP x y).2.1, .int .i64 (untilP x y).2.2]) ∧ Chg [] w w' := by
 have e1 : IntKind.i64.wrap (y.2.1 - 1) = y.2.1 - 1 := IntWalk.i64_in _ (by omega)
 unfold untilP
 by_cases h : x.1 = y.1
 ·
  rw [if_pos h]
  have hq : ((x.1 == y.1) : Bool) = true := by simpa using h
  clear h
  have HM : Hid (∀ v : Int, v = min x.2.2 (y.2.1 - 1) → v = min x.2.2 (y.2.1 - 1)) := h_ (fun _ h => h)
  go_enter Tryz.func209, Tryz.ntmps209
  go_wp2
  all_goals
   refine bodyPost_ret (v := .agg #[.int .i64 x.1, .int .i64 x.2.1, .int .i64 (min x.2.2 (y.2.1 - 1))]) (by simp [results, Tryz.results209, go_sem]; try omega) rfl ?_
   exact ⟨rfl, by repeat' (first | exact Chg.refl _ _ | apply Chg.alloc | (refine Chg.setCell ?_ (.inr (by simp)) _))⟩
 ·
  rw [if_neg h]
  have hq : ((x.1 == y.1) : Bool) = false := by simpa using h
  clear h
  go_enter Tryz.func209, Tryz.ntmps209
  go_wp2
  refine bodyPost_ret (v := .agg #[.int .i64 x.1, .int .i64 x.2.1, .int .i64 x.2.2]) (by simp [results, Tryz.results209, go_sem]) rfl ?_
  exact ⟨rfl, by repeat' (first | exact Chg.refl _ _ | apply Chg.alloc | (refine Chg.setCell ?_ (.inr (by simp)) _))⟩
end
end Go.Proofs.YtehmchdhlhchjaaGreatDoor
