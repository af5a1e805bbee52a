/- past: a cursor goes on. past: a cursor passes. past.until. past: a sweep's step. -/
import Derived.Test.YtehmchdhlhchjaaGreatDoorZeac
set_option linter.unusedSimpArgs false
set_option linter.unusedVariables false
set_option maxHeartbeats 32000000
namespace Go.Proofs.YtehmchdhlhchjaaGreatDoor
section
open Go.RowKit Go.Lib


set_option maxRecDepth 100000 in
theorem next_none_b (w : World) (g : Nat) (v0 v1 v2 v3 vk : Value) (h0 h1 h2 : Value) (B : Option Addr) (c : Nat) (hb : w.heap[g]? = some (.cells #[v0, v1, v2, v3, h0, h1, h2, .slice B 0 c, vk] 214 (0, 0))) :
  Calls Tryz.prog 208 #[.pointer (some ⟨g, 4, none⟩)] w fun e w' => e = .returned (.tuple #[]) ∧ w'.heap[g]? = some (.cells #[v0, v1, v2, v3, .int .i64 201, .int .i64 0, .int .i64 0, .slice B 0 c, vk] 214 (0, 0)) ∧ Chg [g] w w' := by
 have HB := h_ hb
 clear hb
 go_enter Tryz.func208, Tryz.ntmps208
 have z4 := cell_of HB.out 4
 have z5 := cell_of HB.out 5
 have z6 := cell_of HB.out 6
 have z7 := cell_of HB.out 7
 have fz4 := free_of HB.out 4
 have fz5 := free_of HB.out 5
 have fz6 := free_of HB.out 6
 simp only [gA, gY, gZ] at z4 z5 z6 z7
 have p0 := heap_setCell_same w g 4 _ _ (.int .i64 201) HB.out
 have p1 := heap_setCell_same (w.setCell ⟨g, 4, none⟩ (.int .i64 201)) g 5 _ _ (.int .i64 0) p0
 have p2 := heap_setCell_same ((w.setCell ⟨g, 4, none⟩ (.int .i64 201)).setCell ⟨g, 5, none⟩ (.int .i64 0)) g 6 _ _ (.int .i64 0) p1
 simp only [sA, s0, s1] at p2
 have HP := h_ p2
 have CP := h_ ((((Chg.refl [g] w).setCell (p := ⟨g, 4, none⟩) (.inl (by simp)) (.int .i64 201)).setCell (p := ⟨g, 5, none⟩) (.inl (by simp)) (.int .i64 0)).setCell (p := ⟨g, 6, none⟩) (.inl (by simp)) (.int .i64 0))
 clear p0 p1 p2; go_wp2
 refine bodyPost_ret (results_none rfl _ _ _) rfl ?_
 exact ⟨rfl, HP.out, CP.out⟩
set_option maxRecDepth 100000 in
theorem next_some_b (w : World) (g : Nat) (v0 v1 v2 v3 vk : Value) (h0 h1 h2 : Value) (B : Option Addr) (c : Nat) (x : Sp) (r : List Sp) (hb : w.heap[g]? = some (.cells #[v0, v1, v2, v3, h0, h1, h2, .slice B (r.length + 1) c, vk] 214 (0, 0))) (hr : RdK spanTy w B (r.length + 1) (x :: r)) (hn : r.length + 1 ≤ c ∧ c ≤ maxLen) (hB : ∀ a, B = some a → a.block ≠ g) :
  Calls Tryz.prog 208 #[.pointer (some ⟨g, 4, none⟩)] w fun e w' => e = .returned (.tuple #[]) ∧ ∃ B' c', w'.heap[g]? = some (.cells #[v0, v1, v2, v3, .int .i64 x.1, .int .i64 x.2.1, .int .i64 x.2.2, (.slice B' r.length c'), vk] 214 (0, 0)) ∧ RdK spanTy w' B' r.length r ∧ (r.length ≤ c' ∧ c' ≤ maxLen) ∧ (∀ a, B' = some a → ∃ b, B = some b ∧ a.block = b.block) ∧ Chg [g] w w' := by
 obtain ⟨gB, oB, eB, _⟩ := hr.line (by omega)
 subst eB
 have HR := h_ hr
 have HN := h_ hn
 have NB := h_ (hB ⟨gB, oB, none⟩ rfl)
 obtain ⟨y0, y1, y2⟩ := spanCells hr (j := 0) (x := x) rfl
 rw [Nat.zero_mul, Nat.add_zero] at y0 y1 y2
 have HB := h_ hb
 have Y := h_ (show w.cell? ⟨gB, oB, none⟩ = some (.int .i64 x.1) ∧ w.cell? ⟨gB, oB + 1, none⟩ = some (.int .i64 x.2.1) ∧ w.cell? ⟨gB, oB + 2, none⟩ = some (.int .i64 x.2.2) from ⟨y0, y1, y2⟩)
 clear hb hr hn y0 y1 y2 hB
 have n0 : (((r.length + 1 : Nat) : Int) == 0) = false := by simp; omega
 have n1 : (0 : Int) < ((r.length + 1 : Nat) : Int) := by omega
 have n2 : (1 : Int) ≤ ((r.length + 1 : Nat) : Int) := by omega
 have n3 : ((r.length + 1 : Nat) : Int) ≤ (c : Int) := by have := HN.out; omega
 have n5 : (1 : Int) ≤ (r.length : Int) + 1 := by omega
 have n4 : r.length + 1 - 1 = r.length := by omega
 have HT : Hid (RdK spanTy w (if c = 1 then some ⟨gB, oB, none⟩ else some ⟨gB, oB + 3, none⟩) r.length r) := h_ (by
  split
  ·
   have := HN.out
   have e : r = [] := List.eq_nil_of_length_eq_zero (by omega)
   subst e
   exact RdK.nil _ _
  ·
   have q := HR.out.part 1 r.length (by omega)
   simpa [RowTy.k, spanTy] using q)
 go_enter Tryz.func208, Tryz.ntmps208
 have z7 := cell_of HB.out 7
 simp only [gA, gY, gZ] at z7
 go_upto_region 2 with fail
 clear z7
 refine wp_region_held_drew (S := fun _ => True) (by kernel_rfl) trivial (fun hHeld => ?_)
 have CD := h_ (Chg.refl [g] w).drew
 replace HB := h_ (show w.drew.heap[g]? = some _ from HB.out)
 replace Y := h_ (show w.drew.cell? ⟨gB, oB, none⟩ = some (.int .i64 x.1) ∧ w.drew.cell? ⟨gB, oB + 1, none⟩ = some (.int .i64 x.2.1) ∧ w.drew.cell? ⟨gB, oB + 2, none⟩ = some (.int .i64 x.2.2) from Y.out)
 replace HT := h_ (show RdK spanTy w.drew _ r.length r from HT.out.chg (Chg.refl [] w).drew (by simp))
 generalize w.drew = wd at *
 generalize hAD : (if c = 1 then some ⟨gB, oB, none⟩ else some ⟨gB, oB + 3, none⟩ : Option Addr) = AD at *
 have AB : Hid (∀ a, AD = some a → a.block = gB) := h_ (by intro a ha; rw [← hAD] at ha; split at ha <;> cases ha <;> rfl)
 refine sy 0 12 rfl rfl ?_ (hS := trivial)
 try simp only [Act.put, sA, s0, s1]
 refine sy 1 13 rfl rfl ?_ (hS := trivial)
 try simp only [Act.put, sA, s0, s1]
 refine sy 2 14 rfl rfl ?_ (hS := trivial)
 try simp only [Act.put, sA, s0, s1]
 refine sy 3 15 rfl rfl ?_ (hS := trivial)
 try simp only [Act.put, sA, s0, s1]
 refine sy 4 16 rfl rfl ?_ (hS := trivial)
 try simp only [Act.put, sA, s0, s1]
 refine sy 8 20 rfl rfl ?_ (hS := trivial)
 try simp only [Act.put, sA, s0, s1]
 refine sy 9 21 rfl rfl ?_ (hS := trivial)
 try simp only [Act.put, sA, s0, s1]
 refine sy 10 22 rfl rfl ?_ (hS := trivial)
 try simp only [Act.put, sA, s0, s1]
 refine wpAnyH_ready (rs := [5, 11]) (by kernel_rfl) (by simp) ?_
 refine AllReadyH.cons rfl (fun K hK => ?_) (AllReadyH.cons rfl (fun K hK => ?_) AllReadyH.nil)
 ·
  skip
  replace hK := h_ hK
  have z7 := cell_of HB.out 7
  simp only [gA, gY, gZ] at z7
  go_simp; clear z7 hHeld
  refine hK.out _ _ trivial (fun hHeld => ?_)
  clear hK K; try simp only [Act.put, sA, s0, s1]
  refine sy 6 18 rfl rfl ?_ (hS := trivial)
  try simp only [Act.put, sA, s0, s1]
  refine wpAnyH_ready (rs := [7, 11]) (by kernel_rfl) (by simp) ?_
  refine AllReadyH.cons rfl (fun K hK => ?_) (AllReadyH.cons rfl (fun K hK => ?_) AllReadyH.nil)
  ·
   skip
   replace hK := h_ hK
   obtain ⟨y0, y1, y2⟩ := Y.out
   go_simp; clear y0 y1 y2 hHeld
   refine hK.out _ _ trivial (fun hHeld => ?_)
   clear hK K; try simp only [Act.put, sA, s0, s1]
   refine on1 11 rfl (fun K hK => ?_)
   have z7 := cell_of HB.out 7
   simp only [gA, gY, gZ] at z7
   go_simp; clear z7 hHeld
   refine hK.out _ _ trivial (fun hHeld => ?_)
   clear hK K; try simp only [Act.put, sA, s0, s1]
   refine sy 12 24 rfl rfl ?_ (hS := trivial)
   try simp only [Act.put, sA, s0, s1]
   refine sy 13 25 rfl rfl ?_ (hS := trivial)
   try simp only [Act.put, sA, s0, s1]
   refine sy 14 26 rfl rfl ?_ (hS := trivial)
   try simp only [Act.put, sA, s0, s1]
   refine on1 15 rfl (fun K hK => ?_)
   have z4 := cell_of HB.out 4
   have z5 := cell_of HB.out 5
   have z6 := cell_of HB.out 6
   have fz4 := free_of HB.out 4
   have fz5 := free_of HB.out 5
   have fz6 := free_of HB.out 6
   simp only [gA, gY, gZ] at z4 z5 z6
   have p0 := heap_setCell_same wd g 4 _ _ (.int .i64 x.1) HB.out
   have p1 := heap_setCell_same (wd.setCell ⟨g, 4, none⟩ (.int .i64 x.1)) g 5 _ _ (.int .i64 x.2.1) p0
   have p2 := heap_setCell_same ((wd.setCell ⟨g, 4, none⟩ (.int .i64 x.1)).setCell ⟨g, 5, none⟩ (.int .i64 x.2.1)) g 6 _ _ (.int .i64 x.2.2) p1
   simp only [sA, s0, s1] at p2
   have HP := h_ p2
   clear p0 p1 p2; go_simp; clear hHeld z4 fz4 z5 fz5 z6 fz6
   refine hK.out _ _ trivial (fun hHeld => ?_)
   clear hK K; try simp only [Act.put, sA, s0, s1]
   refine sy 16 27 rfl rfl ?_ (hS := trivial)
   try simp only [Act.put, sA, s0, s1]
   refine sy 17 28 rfl rfl ?_ (hS := trivial)
   try simp only [Act.put, sA, s0, s1]
   refine on1 18 rfl (fun K hK => ?_)
   have z7 := cell_of HP.out 7
   have fz7 := free_of HP.out 7
   simp only [gA, gY, gZ] at z7
   go_simp; clear hHeld z7 fz7
   refine hK.out _ _ trivial (fun hHeld => ?_)
   clear hK K; try simp only [Act.put, sA, s0, s1]
   refine wpAnyH_done (by kernel_rfl) ?_ _
   have HQ := heap_setCell_same _ g 7 _ _ (.slice AD r.length (c - 1)) HP.out
   simp only [sA, s0, s1] at HQ
   have CQ := h_ (((((Chg.refl [g] wd).setCell (p := ⟨g, 4, none⟩) (.inl (by simp)) (.int .i64 x.1)).setCell (p := ⟨g, 5, none⟩) (.inl (by simp)) (.int .i64 x.2.1)).setCell (p := ⟨g, 6, none⟩) (.inl (by simp)) (.int .i64 x.2.2)).setCell (p := ⟨g, 7, none⟩) (.inl (by simp)) (.slice AD r.length (c - 1)))
   have HQ2 := h_ HQ
   clear HQ; go_wp2
   go_end0
   exact ⟨rfl, AD, c - 1, HQ2.out, HT.out.chg CQ.out (fun a ha => by rw [AB.out a ha]; simpa using NB.out), by have := HN.out; omega, fun a ha => by (first | exact ⟨_, rfl, AB.out a ha⟩ | exact AB.out a ha | simpa using AB.out a ha), CD.out.trans CQ.out⟩
  ·
   skip
   replace hK := h_ hK
   have z7 := cell_of HB.out 7
   simp only [gA, gY, gZ] at z7
   go_simp; clear z7 hHeld
   refine hK.out _ _ trivial (fun hHeld => ?_)
   clear hK K; try simp only [Act.put, sA, s0, s1]
   refine sy 12 24 rfl rfl ?_ (hS := trivial)
   try simp only [Act.put, sA, s0, s1]
   refine on1 7 rfl (fun K hK => ?_)
   obtain ⟨y0, y1, y2⟩ := Y.out
   go_simp; clear y0 y1 y2 hHeld
   refine hK.out _ _ trivial (fun hHeld => ?_)
   clear hK K; try simp only [Act.put, sA, s0, s1]
   refine sy 13 25 rfl rfl ?_ (hS := trivial)
   try simp only [Act.put, sA, s0, s1]
   refine sy 14 26 rfl rfl ?_ (hS := trivial)
   try simp only [Act.put, sA, s0, s1]
   refine on1 15 rfl (fun K hK => ?_)
   have z4 := cell_of HB.out 4
   have z5 := cell_of HB.out 5
   have z6 := cell_of HB.out 6
   have fz4 := free_of HB.out 4
   have fz5 := free_of HB.out 5
   have fz6 := free_of HB.out 6
   simp only [gA, gY, gZ] at z4 z5 z6
   have p0 := heap_setCell_same wd g 4 _ _ (.int .i64 x.1) HB.out
   have p1 := heap_setCell_same (wd.setCell ⟨g, 4, none⟩ (.int .i64 x.1)) g 5 _ _ (.int .i64 x.2.1) p0
   have p2 := heap_setCell_same ((wd.setCell ⟨g, 4, none⟩ (.int .i64 x.1)).setCell ⟨g, 5, none⟩ (.int .i64 x.2.1)) g 6 _ _ (.int .i64 x.2.2) p1
   simp only [sA, s0, s1] at p2
   have HP := h_ p2
   clear p0 p1 p2; go_simp; clear hHeld z4 fz4 z5 fz5 z6 fz6
   refine hK.out _ _ trivial (fun hHeld => ?_)
   clear hK K; try simp only [Act.put, sA, s0, s1]
   refine sy 16 27 rfl rfl ?_ (hS := trivial)
   try simp only [Act.put, sA, s0, s1]
   refine sy 17 28 rfl rfl ?_ (hS := trivial)
   try simp only [Act.put, sA, s0, s1]
   refine on1 18 rfl (fun K hK => ?_)
   have z7 := cell_of HP.out 7
   have fz7 := free_of HP.out 7
   simp only [gA, gY, gZ] at z7
   go_simp; clear hHeld z7 fz7
   refine hK.out _ _ trivial (fun hHeld => ?_)
   clear hK K; try simp only [Act.put, sA, s0, s1]
   refine wpAnyH_done (by kernel_rfl) ?_ _
   have HQ := heap_setCell_same _ g 7 _ _ (.slice AD r.length (c - 1)) HP.out
   simp only [sA, s0, s1] at HQ
   have CQ := h_ (((((Chg.refl [g] wd).setCell (p := ⟨g, 4, none⟩) (.inl (by simp)) (.int .i64 x.1)).setCell (p := ⟨g, 5, none⟩) (.inl (by simp)) (.int .i64 x.2.1)).setCell (p := ⟨g, 6, none⟩) (.inl (by simp)) (.int .i64 x.2.2)).setCell (p := ⟨g, 7, none⟩) (.inl (by simp)) (.slice AD r.length (c - 1)))
   have HQ2 := h_ HQ
   clear HQ; go_wp2
   go_end0
   exact ⟨rfl, AD, c - 1, HQ2.out, HT.out.chg CQ.out (fun a ha => by rw [AB.out a ha]; simpa using NB.out), by have := HN.out; omega, fun a ha => by (first | exact ⟨_, rfl, AB.out a ha⟩ | exact AB.out a ha | simpa using AB.out a ha), CD.out.trans CQ.out⟩
 ·
  skip
  replace hK := h_ hK
  have z7 := cell_of HB.out 7
  simp only [gA, gY, gZ] at z7
  go_simp; clear z7 hHeld
  refine hK.out _ _ trivial (fun hHeld => ?_)
  clear hK K; try simp only [Act.put, sA, s0, s1]
  refine sy 12 24 rfl rfl ?_ (hS := trivial)
  try simp only [Act.put, sA, s0, s1]
  refine on1 5 rfl (fun K hK => ?_)
  have z7 := cell_of HB.out 7
  simp only [gA, gY, gZ] at z7
  go_simp; clear z7 hHeld
  refine hK.out _ _ trivial (fun hHeld => ?_)
  clear hK K; try simp only [Act.put, sA, s0, s1]
  refine sy 6 18 rfl rfl ?_ (hS := trivial)
  try simp only [Act.put, sA, s0, s1]
  refine on1 7 rfl (fun K hK => ?_)
  obtain ⟨y0, y1, y2⟩ := Y.out
  go_simp; clear y0 y1 y2 hHeld
  refine hK.out _ _ trivial (fun hHeld => ?_)
  clear hK K; try simp only [Act.put, sA, s0, s1]
  refine sy 13 25 rfl rfl ?_ (hS := trivial)
  try simp only [Act.put, sA, s0, s1]
  refine sy 14 26 rfl rfl ?_ (hS := trivial)
  try simp only [Act.put, sA, s0, s1]
  refine on1 15 rfl (fun K hK => ?_)
  have z4 := cell_of HB.out 4
  have z5 := cell_of HB.out 5
  have z6 := cell_of HB.out 6
  have fz4 := free_of HB.out 4
  have fz5 := free_of HB.out 5
  have fz6 := free_of HB.out 6
  simp only [gA, gY, gZ] at z4 z5 z6
  have p0 := heap_setCell_same wd g 4 _ _ (.int .i64 x.1) HB.out
  have p1 := heap_setCell_same (wd.setCell ⟨g, 4, none⟩ (.int .i64 x.1)) g 5 _ _ (.int .i64 x.2.1) p0
  have p2 := heap_setCell_same ((wd.setCell ⟨g, 4, none⟩ (.int .i64 x.1)).setCell ⟨g, 5, none⟩ (.int .i64 x.2.1)) g 6 _ _ (.int .i64 x.2.2) p1
  simp only [sA, s0, s1] at p2
  have HP := h_ p2
  clear p0 p1 p2; go_simp; clear hHeld z4 fz4 z5 fz5 z6 fz6
  refine hK.out _ _ trivial (fun hHeld => ?_)
  clear hK K; try simp only [Act.put, sA, s0, s1]
  refine sy 16 27 rfl rfl ?_ (hS := trivial)
  try simp only [Act.put, sA, s0, s1]
  refine sy 17 28 rfl rfl ?_ (hS := trivial)
  try simp only [Act.put, sA, s0, s1]
  refine on1 18 rfl (fun K hK => ?_)
  have z7 := cell_of HP.out 7
  have fz7 := free_of HP.out 7
  simp only [gA, gY, gZ] at z7
  go_simp; clear hHeld z7 fz7
  refine hK.out _ _ trivial (fun hHeld => ?_)
  clear hK K; try simp only [Act.put, sA, s0, s1]
  refine wpAnyH_done (by kernel_rfl) ?_ _
  have HQ := heap_setCell_same _ g 7 _ _ (.slice AD r.length (c - 1)) HP.out
  simp only [sA, s0, s1] at HQ
  have CQ := h_ (((((Chg.refl [g] wd).setCell (p := ⟨g, 4, none⟩) (.inl (by simp)) (.int .i64 x.1)).setCell (p := ⟨g, 5, none⟩) (.inl (by simp)) (.int .i64 x.2.1)).setCell (p := ⟨g, 6, none⟩) (.inl (by simp)) (.int .i64 x.2.2)).setCell (p := ⟨g, 7, none⟩) (.inl (by simp)) (.slice AD r.length (c - 1)))
  have HQ2 := h_ HQ
  clear HQ; go_wp2
  go_end0
  exact ⟨rfl, AD, c - 1, HQ2.out, HT.out.chg CQ.out (fun a ha => by rw [AB.out a ha]; simpa using NB.out), by have := HN.out; omega, fun a ha => by (first | exact ⟨_, rfl, AB.out a ha⟩ | exact AB.out a ha | simpa using AB.out a ha), CD.out.trans CQ.out⟩
end
section
open Go.RowKit Go.Lib


set_option maxRecDepth 100000 in
theorem pass_b (w : World) (g : Nat) (v0 v1 v2 v3 vk : Value) (B : Option Addr) (c : Nat) (x : Sp) (r : List Sp) (tt : Int) (hto : 0 ≤ tt ∧ tt ≤ 2147483647) (hb : w.heap[g]? = some (.cells #[v0, v1, v2, v3, .int .i64 x.1, .int .i64 x.2.1, .int .i64 x.2.2, .slice B r.length c, vk] 214 (0, 0))) (hr : RdK spanTy w B r.length r) (hn : r.length ≤ c ∧ c ≤ maxLen) (hB : ∀ a, B = some a → a.block ≠ g) :
  Calls Tryz.prog 210 #[.pointer (some ⟨g, 4, none⟩), .int .i64 tt] w fun e w' => e = .returned (.tuple #[]) ∧ ∃ B' c', w'.heap[g]? = some (.cells #[v0, v1, v2, v3, .int .i64 (hdP (passP (x :: r) tt)).1, .int .i64 (hdP (passP (x :: r) tt)).2.1, .int .i64 (hdP (passP (x :: r) tt)).2.2, .slice B' (passP (x :: r) tt).tail.length c', vk] 214 (0, 0)) ∧ RdK spanTy w' B' (passP (x :: r) tt).tail.length (passP (x :: r) tt).tail ∧ ((passP (x :: r) tt).tail.length ≤ c' ∧ c' ≤ maxLen) ∧ (∀ a, B' = some a → ∃ b, B = some b ∧ a.block = b.block) ∧ Chg [g] w w' := by
 have HB := h_ hb
 have HR := h_ hr
 have HN := h_ hn
 have NB := h_ hB
 clear hb hr hn hB
 have e1 : IntKind.i64.wrap (tt + 1) = tt + 1 := IntWalk.i64_in _ (by omega)
 by_cases hlt : tt < x.2.2
 ·
  have hp : passP (x :: r) tt = (x.1, tt + 1, x.2.2) :: r := by unfold passP; simp only; rw [if_pos hlt]
  rw [hp]
  simp only [hd_cons, List.tail_cons]
  have HLT := hlt
  clear hp
  go_enter Tryz.func210, Tryz.ntmps210
  have z4 := cell_of HB.out 4
  have z5 := cell_of HB.out 5
  have z6 := cell_of HB.out 6
  have z7 := cell_of HB.out 7
  have fz5 := free_of HB.out 5
  simp only [gA, gY, gZ] at z4 z5 z6 z7
  have HQ := heap_setCell_same w g 5 _ _ (.int .i64 (tt + 1)) HB.out
  simp only [sA, s0, s1] at HQ
  have HP := h_ HQ
  have CP := h_ ((Chg.refl [g] w).setCell (p := ⟨g, 5, none⟩) (.inl (by simp)) (.int .i64 (tt + 1)))
  clear HQ; go_wp2
  refine bodyPost_ret (results_none rfl _ _ _) rfl ?_
  exact ⟨rfl, B, c, HP.out, HR.out.chg CP.out (fun a ha => by simpa using NB.out a ha), HN.out, fun a ha => ⟨a, ha, rfl⟩, CP.out⟩
 ·
  have hp : passP (x :: r) tt = r := by unfold passP; simp only; rw [if_neg hlt]
  rw [hp]
  clear hp
  cases r with
  | nil =>
   go_enter Tryz.func210, Tryz.ntmps210
   have z4 := cell_of HB.out 4
   have z5 := cell_of HB.out 5
   have z6 := cell_of HB.out 6
   have z7 := cell_of HB.out 7
   simp only [gA, gY, gZ] at z4 z5 z6 z7
   go_wp2_with fail; clear z4 z5 z6 z7
   refine (next_none_b w g v0 v1 v2 v3 vk _ _ _ B c HB.out).mono ?_
   rintro e w' ⟨rfl, h1, h2⟩
   have HP := h_ h1
   have CP := h_ h2
   clear h1 h2; go_wp2
   go_end0
   exact ⟨rfl, B, c, HP.out, RdK.nil _ _, ⟨Nat.zero_le _, HN.out.2⟩, fun a ha => ⟨a, ha, rfl⟩, CP.out⟩
  | cons y r2 =>
   go_enter Tryz.func210, Tryz.ntmps210
   have z4 := cell_of HB.out 4
   have z5 := cell_of HB.out 5
   have z6 := cell_of HB.out 6
   have z7 := cell_of HB.out 7
   simp only [gA, gY, gZ] at z4 z5 z6 z7
   go_wp2_with fail; clear z4 z5 z6 z7
   refine (next_some_b w g v0 v1 v2 v3 vk _ _ _ B c y r2 HB.out HR.out HN.out NB.out).mono ?_
   rintro e w' ⟨rfl, B2, c2, h1, h2, h3, h4, h5⟩
   have HP := h_ h1
   have CP := h_ h5
   have H2 := h_ h2
   have H3 := h_ h3
   have H4 := h_ h4
   clear h1 h2 h3 h4 h5; go_wp2
   go_end0
   exact ⟨rfl, B2, c2, HP.out, H2.out, H3.out, H4.out, CP.out⟩
end
section
open Go.RowKit Go.Lib


set_option maxRecDepth 100000 in
theorem until_any (w : World) (x y : Sp) (hx : -2147483648 ≤ x.2.2 ∧ x.2.2 ≤ 2147483647) (hy : -2147483648 ≤ y.2.1 ∧ y.2.1 ≤ 2147483647) : Calls Tryz.prog 209 #[.agg #[.int .i64 x.1, .int .i64 x.2.1, .int .i64 x.2.2], .agg #[.int .i64 y.1, .int .i64 y.2.1, .int .i64 y.2.2]] w fun e w' => e = .returned (.agg #[.int .i64 (untilP x y).1, .int .i64 (untilP x y).2.1, .int .i64 (untilP x y).2.2]) ∧ Chg [] w w' := by
 have e1 : IntKind.i64.wrap (y.2.1 - 1) = y.2.1 - 1 := IntWalk.i64_in _ (by omega)
 unfold untilP
 by_cases h : x.1 = y.1
 ·
  rw [if_pos h]
  have hq : ((x.1 == y.1) : Bool) = true := by simpa using h
  clear h
  have HM : Hid (∀ v : Int, v = min x.2.2 (y.2.1 - 1) → v = min x.2.2 (y.2.1 - 1)) := h_ (fun _ h => h)
  go_enter Tryz.func209, Tryz.ntmps209
  go_wp2
  all_goals
   refine bodyPost_ret (v := .agg #[.int .i64 x.1, .int .i64 x.2.1, .int .i64 (min x.2.2 (y.2.1 - 1))]) (by simp [results, Tryz.results209, go_sem]; try omega) rfl ?_
   exact ⟨rfl, by repeat' (first | exact Chg.refl _ _ | apply Chg.alloc | (refine Chg.setCell ?_ (.inr (by simp)) _))⟩
 ·
  rw [if_neg h]
  have hq : ((x.1 == y.1) : Bool) = false := by simpa using h
  clear h
  go_enter Tryz.func209, Tryz.ntmps209
  go_wp2
  refine bodyPost_ret (v := .agg #[.int .i64 x.1, .int .i64 x.2.1, .int .i64 x.2.2]) (by simp [results, Tryz.results209, go_sem]) rfl ?_
  exact ⟨rfl, by repeat' (first | exact Chg.refl _ _ | apply Chg.alloc | (refine Chg.setCell ?_ (.inr (by simp)) _))⟩
end
section
open Go.RowKit Go.Lib


set_option maxRecDepth 100000 in
theorem step_both_lt (w : World) (g : Nat) (X : List Nat) (kf : Nat) (A : Option Addr) (c : Nat) (B : Option Addr) (d : Nat) (x y : Sp) (r r2 : List Sp) (e1 : x.1 = y.1) (e2 : x.2.1 = y.2.1) (hm : x.2.2 ≤ y.2.2) (h : SwQ w g X (x :: r) (y :: r2) kf A c B d) (hX : ∀ z ∈ X, z < w.heap.size) (HTO : Hid (0 ≤ x.2.2 ∧ x.2.2 ≤ 2147483647)) : Calls Tryz.prog 192 #[.pointer (some ⟨g, 0, none⟩)] w fun e w' => e = .returned (.tuple #[.agg #[.int .i64 x.1, .int .i64 x.2.1, .int .i64 x.2.2], .bool true, .bool true]) ∧ SwP w' g X (passP (x :: r) x.2.2) (passP (y :: r2) x.2.2) kf ∧ Chg [g] w w' := by
 have E1H := h_ e1
 have E2H := h_ e2
 have HMH := h_ hm
 clear e1 e2 hm
 have H := h_ h
 clear h
 have hmin : min x.2.2 y.2.2 = x.2.2 := by have := HMH.out; omega
 have HG : Hid (w.heap[g]? = some (.cells #[.int .i64 x.1, .int .i64 x.2.1, .int .i64 x.2.2, .slice A r.length c, .int .i64 y.1, .int .i64 y.2.1, .int .i64 y.2.2, .slice B r2.length d, .func (.func kf) #[] #[]] 214 (0, 0))) := h_ (H.out.hg)
 obtain ⟨w1, hw1, c1, b1⟩ := news1 w (.cells #[.int .i64 0, .int .i64 0, .int .i64 0] 81)
 have W1 := h_ hw1
 have C1 := h_ c1
 have B1 := h_ b1
 have L1 := h_ (show w.heap.size < w1.heap.size from lt_of_heap b1)
 have G1 := h_ (c1.at_ HG.out (by simp))
 have GL := h_ (lt_of_heap HG.out)
 clear hw1 c1 b1
 go_enter Tryz.func192, Tryz.ntmps192
 go_upto_region 1 with fail
 rw [← W1.out]
 generalize hg0 : w.heap.size = g0 at *
 obtain ⟨z0, z1, z2⟩ := ce3 G1.out
 have z4 := cell_of G1.out 4
 have z5 := cell_of G1.out 5
 have z6 := cell_of G1.out 6
 simp only [gA, gY, gZ] at z4 z5 z6
 refine wp_region_held_drew (S := fun w' => w'.cell? ⟨g, 0, none⟩ = some (.int .i64 x.1) ∧ w'.cell? ⟨g, 1, none⟩ = some (.int .i64 x.2.1) ∧ w'.cell? ⟨g, 2, none⟩ = some (.int .i64 x.2.2) ∧ w'.cell? ⟨g, 4, none⟩ = some (.int .i64 y.1) ∧ w'.cell? ⟨g, 5, none⟩ = some (.int .i64 y.2.1) ∧ w'.cell? ⟨g, 6, none⟩ = some (.int .i64 y.2.2)) (by kernel_rfl) ⟨z0, z1, z2, z4, z5, z6⟩ (fun hHeld => ?_)
 have CD := h_ (Chg.refl [] w1).drew
 have HH := h_ (fun (w' : World) (hc : Chg [] w1.drew w') => (⟨(CD.out.trans hc).cell z0 (by simp), (CD.out.trans hc).cell z1 (by simp), (CD.out.trans hc).cell z2 (by simp), (CD.out.trans hc).cell z4 (by simp), (CD.out.trans hc).cell z5 (by simp), (CD.out.trans hc).cell z6 (by simp)⟩ : w'.cell? ⟨g, 0, none⟩ = some (.int .i64 x.1) ∧ w'.cell? ⟨g, 1, none⟩ = some (.int .i64 x.2.1) ∧ w'.cell? ⟨g, 2, none⟩ = some (.int .i64 x.2.2) ∧ w'.cell? ⟨g, 4, none⟩ = some (.int .i64 y.1) ∧ w'.cell? ⟨g, 5, none⟩ = some (.int .i64 y.2.1) ∧ w'.cell? ⟨g, 6, none⟩ = some (.int .i64 y.2.2)))
 have CD2 := h_ (C1.out.trans CD.out)
 replace B1 := h_ (show w1.drew.heap[g0]? = _ from B1.out)
 replace L1 : Hid (g0 < w1.drew.heap.size) := h_ (Nat.lt_of_lt_of_le L1.out CD.out.size)
 clear z0 z1 z2 z4 z5 z6
 generalize w1.drew = wd at *
 refine' join3 (F := fun (p q : Nat) (w' : World) => Hid (w'.heap[p]? = some (.cells #[.int .i64 x.1, .int .i64 x.2.1, .int .i64 x.2.2] 81 (0, 0))) ∧ Hid (w'.heap[q]? = some (.cells #[.int .i64 y.1, .int .i64 y.2.1, .int .i64 y.2.2] 81 (0, 0))) ∧ Hid (g0 < p ∧ g0 < q ∧ p ≠ q) ∧ Hid (Chg [] wd w')) (R := _) (fun JOIN => ?leaf) ?rest
 case leaf =>
  have hHeld := HH.out wd (Chg.refl [] wd)
  have C_wd := h_ (Chg.refl [] wd)
  refine sy 0 7 rfl rfl ?_; try simp only [Act.put, sA, s0, s1]
  refine sy 1 8 rfl rfl ?_; try simp only [Act.put, sA, s0, s1]
  refine sy 2 9 rfl rfl ?_; try simp only [Act.put, sA, s0, s1]
  refine sy 3 10 rfl rfl ?_; try simp only [Act.put, sA, s0, s1]
  refine sy 4 11 rfl rfl ?_ (hy := by (intro w hSw; (try dsimp only at hSw); obtain ⟨q0, q1, q2, q3, q4, q5⟩ := hSw; go_simp; try with_reducible rfl))
  try simp only [Act.put, sA, s0, s1]
  refine sy 5 12 rfl rfl ?_; try simp only [Act.put, sA, s0, s1]
  refine sy 6 13 rfl rfl ?_; try simp only [Act.put, sA, s0, s1]
  refine sy 7 14 rfl rfl ?_; try simp only [Act.put, sA, s0, s1]
  refine sy 8 15 rfl rfl ?_; try simp only [Act.put, sA, s0, s1]
  refine sy 9 16 rfl rfl ?_ (hy := by (intro w hSw; (try dsimp only at hSw); obtain ⟨q0, q1, q2, q3, q4, q5⟩ := hSw; go_simp; try with_reducible rfl))
  try simp only [Act.put, sA, s0, s1]
  refine wpAnyH_ready (rs := [10, 11]) (by kernel_rfl) (by simp) ?_
  refine AllReadyH.cons rfl (fun K hK => ?_) (AllReadyH.cons rfl (fun K hK => ?_) AllReadyH.nil)
  ·
   skip
   replace hK := h_ hK
   go_simp
   obtain ⟨wx, hw, cn, bn⟩ := news1 wd (.cells #[.int .i64 0, .int .i64 0, .int .i64 0] 81)
   rw [← hw]
   have PB := h_ bn
   have PL := h_ (show wd.heap.size < wx.heap.size from lt_of_heap bn)
   have C_wx := h_ (C_wd.out.trans cn)
   clear hw cn bn hHeld
   refine hK.out _ _ (HH.out wx C_wx.out) (fun hHeld => ?_)
   clear hK K; try simp only [Act.put, sA, s0, s1]
   refine on1 11 rfl (fun K hK => ?_)
   go_simp
   obtain ⟨wxy, hw, cn, bn⟩ := news1 wx (.cells #[.int .i64 0, .int .i64 0, .int .i64 0] 81)
   rw [← hw]
   have QB := h_ bn
   have QL := h_ (show wx.heap.size < wxy.heap.size from lt_of_heap bn)
   have C_wxy := h_ (C_wx.out.trans cn)
   replace PB := h_ (cn.at_ PB.out (by simp))
   clear hw cn bn hHeld
   refine hK.out _ _ (HH.out wxy C_wxy.out) (fun hHeld => ?_)
   clear hK K; try simp only [Act.put, sA, s0, s1]
   refine on1 12 rfl (fun K hK => ?_)
   have z0 := cell_of PB.out 0
   have z1 := cell_of PB.out 1
   have z2 := cell_of PB.out 2
   have fz0 := free_of PB.out 0
   have fz1 := free_of PB.out 1
   have fz2 := free_of PB.out 2
   simp only [gA, gY, gZ] at z0 z1 z2
   have p0 := heap_setCell_same wxy (wd.heap.size) 0 _ _ (.int .i64 x.1) PB.out
   have p1 := heap_setCell_same ((wxy.setCell ⟨wd.heap.size, 0, none⟩ (.int .i64 x.1))) (wd.heap.size) 1 _ _ (.int .i64 x.2.1) p0
   have p2 := heap_setCell_same (((wxy.setCell ⟨wd.heap.size, 0, none⟩ (.int .i64 x.1)).setCell ⟨wd.heap.size, 1, none⟩ (.int .i64 x.2.1))) (wd.heap.size) 2 _ _ (.int .i64 x.2.2) p1
   simp only [sA, s0, s1] at p2
   have NB := h_ p2
   have C_wxys := h_ (((C_wxy.out.setCell (p := ⟨wd.heap.size, 0, none⟩) (.inr (Nat.le_refl _)) (.int .i64 x.1)).setCell (p := ⟨wd.heap.size, 1, none⟩) (.inr (Nat.le_refl _)) (.int .i64 x.2.1)).setCell (p := ⟨wd.heap.size, 2, none⟩) (.inr (Nat.le_refl _)) (.int .i64 x.2.2))
   have OB := h_ (((heap_setCell_other ((wxy.setCell ⟨wd.heap.size, 0, none⟩ (.int .i64 x.1)).setCell ⟨wd.heap.size, 1, none⟩ (.int .i64 x.2.1)) ⟨wd.heap.size, 2, none⟩ (wx.heap.size) (.int .i64 x.2.2) (by simp; have := PL.out; have := QL.out; omega)).trans ((heap_setCell_other (wxy.setCell ⟨wd.heap.size, 0, none⟩ (.int .i64 x.1)) ⟨wd.heap.size, 1, none⟩ (wx.heap.size) (.int .i64 x.2.1) (by simp; have := PL.out; have := QL.out; omega)).trans ((heap_setCell_other (wxy) ⟨wd.heap.size, 0, none⟩ (wx.heap.size) (.int .i64 x.1) (by simp; have := PL.out; have := QL.out; omega)).trans QB.out))))
   go_simp; clear z0 z1 z2 fz0 fz1 fz2 p0 p1 p2 hHeld PB QB
   generalize (((wxy.setCell ⟨wd.heap.size, 0, none⟩ (.int .i64 x.1)).setCell ⟨wd.heap.size, 1, none⟩ (.int .i64 x.2.1)).setCell ⟨wd.heap.size, 2, none⟩ (.int .i64 x.2.2)) = wxys at *
   have PB := NB
   have QB := OB
   clear NB OB
   refine hK.out _ _ (HH.out wxys C_wxys.out) (fun hHeld => ?_)
   clear hK K; try simp only [Act.put, sA, s0, s1]
   refine on1 13 rfl (fun K hK => ?_)
   have z0 := cell_of QB.out 0
   have z1 := cell_of QB.out 1
   have z2 := cell_of QB.out 2
   have fz0 := free_of QB.out 0
   have fz1 := free_of QB.out 1
   have fz2 := free_of QB.out 2
   simp only [gA, gY, gZ] at z0 z1 z2
   have p0 := heap_setCell_same wxys (wx.heap.size) 0 _ _ (.int .i64 y.1) QB.out
   have p1 := heap_setCell_same ((wxys.setCell ⟨wx.heap.size, 0, none⟩ (.int .i64 y.1))) (wx.heap.size) 1 _ _ (.int .i64 y.2.1) p0
   have p2 := heap_setCell_same (((wxys.setCell ⟨wx.heap.size, 0, none⟩ (.int .i64 y.1)).setCell ⟨wx.heap.size, 1, none⟩ (.int .i64 y.2.1))) (wx.heap.size) 2 _ _ (.int .i64 y.2.2) p1
   simp only [sA, s0, s1] at p2
   have NB := h_ p2
   have C_wxyss := h_ (((C_wxys.out.setCell (p := ⟨wx.heap.size, 0, none⟩) (.inr (C_wx.out.size)) (.int .i64 y.1)).setCell (p := ⟨wx.heap.size, 1, none⟩) (.inr (C_wx.out.size)) (.int .i64 y.2.1)).setCell (p := ⟨wx.heap.size, 2, none⟩) (.inr (C_wx.out.size)) (.int .i64 y.2.2))
   have OB := h_ (((heap_setCell_other ((wxys.setCell ⟨wx.heap.size, 0, none⟩ (.int .i64 y.1)).setCell ⟨wx.heap.size, 1, none⟩ (.int .i64 y.2.1)) ⟨wx.heap.size, 2, none⟩ (wd.heap.size) (.int .i64 y.2.2) (by simp; have := PL.out; have := QL.out; omega)).trans ((heap_setCell_other (wxys.setCell ⟨wx.heap.size, 0, none⟩ (.int .i64 y.1)) ⟨wx.heap.size, 1, none⟩ (wd.heap.size) (.int .i64 y.2.1) (by simp; have := PL.out; have := QL.out; omega)).trans ((heap_setCell_other (wxys) ⟨wx.heap.size, 0, none⟩ (wd.heap.size) (.int .i64 y.1) (by simp; have := PL.out; have := QL.out; omega)).trans PB.out))))
   go_simp; clear z0 z1 z2 fz0 fz1 fz2 p0 p1 p2 hHeld QB PB
   generalize (((wxys.setCell ⟨wx.heap.size, 0, none⟩ (.int .i64 y.1)).setCell ⟨wx.heap.size, 1, none⟩ (.int .i64 y.2.1)).setCell ⟨wx.heap.size, 2, none⟩ (.int .i64 y.2.2)) = wxyss at *
   have QB := NB
   have PB := OB
   clear NB OB
   refine hK.out _ _ (HH.out wxyss C_wxyss.out) (fun hHeld => ?_)
   clear hK K; try simp only [Act.put, sA, s0, s1]
   refine wpAnyH_done (by kernel_rfl) ?_ _
   have FACTS : Hid (wxyss.heap[wd.heap.size]? = some (.cells #[.int .i64 x.1, .int .i64 x.2.1, .int .i64 x.2.2] 81 (0, 0))) ∧ Hid (wxyss.heap[wx.heap.size]? = some (.cells #[.int .i64 y.1, .int .i64 y.2.1, .int .i64 y.2.2] 81 (0, 0))) ∧ Hid (g0 < wd.heap.size ∧ g0 < wx.heap.size ∧ wd.heap.size ≠ wx.heap.size) ∧ Hid (Chg [] wd wxyss) := ⟨PB, QB, h_ (by have := PL.out; have := QL.out; have := L1.out; have := C_wx.out.size; refine ⟨?_, ?_, ?_⟩ <;> omega), C_wxyss⟩
   generalize wd.heap.size = p at FACTS ⊢
   generalize wx.heap.size = q at FACTS ⊢
   exact JOIN p q wxyss FACTS
  ·
   skip
   replace hK := h_ hK
   go_simp
   obtain ⟨wy, hw, cn, bn⟩ := news1 wd (.cells #[.int .i64 0, .int .i64 0, .int .i64 0] 81)
   rw [← hw]
   have QB := h_ bn
   have QL := h_ (show wd.heap.size < wy.heap.size from lt_of_heap bn)
   have C_wy := h_ (C_wd.out.trans cn)
   clear hw cn bn hHeld
   refine hK.out _ _ (HH.out wy C_wy.out) (fun hHeld => ?_)
   clear hK K; try simp only [Act.put, sA, s0, s1]
   refine on1 10 rfl (fun K hK => ?_)
   go_simp
   obtain ⟨wyx, hw, cn, bn⟩ := news1 wy (.cells #[.int .i64 0, .int .i64 0, .int .i64 0] 81)
   rw [← hw]
   have PB := h_ bn
   have PL := h_ (show wy.heap.size < wyx.heap.size from lt_of_heap bn)
   have C_wyx := h_ (C_wy.out.trans cn)
   replace QB := h_ (cn.at_ QB.out (by simp))
   clear hw cn bn hHeld
   refine hK.out _ _ (HH.out wyx C_wyx.out) (fun hHeld => ?_)
   clear hK K; try simp only [Act.put, sA, s0, s1]
   refine on1 12 rfl (fun K hK => ?_)
   have z0 := cell_of PB.out 0
   have z1 := cell_of PB.out 1
   have z2 := cell_of PB.out 2
   have fz0 := free_of PB.out 0
   have fz1 := free_of PB.out 1
   have fz2 := free_of PB.out 2
   simp only [gA, gY, gZ] at z0 z1 z2
   have p0 := heap_setCell_same wyx (wy.heap.size) 0 _ _ (.int .i64 x.1) PB.out
   have p1 := heap_setCell_same ((wyx.setCell ⟨wy.heap.size, 0, none⟩ (.int .i64 x.1))) (wy.heap.size) 1 _ _ (.int .i64 x.2.1) p0
   have p2 := heap_setCell_same (((wyx.setCell ⟨wy.heap.size, 0, none⟩ (.int .i64 x.1)).setCell ⟨wy.heap.size, 1, none⟩ (.int .i64 x.2.1))) (wy.heap.size) 2 _ _ (.int .i64 x.2.2) p1
   simp only [sA, s0, s1] at p2
   have NB := h_ p2
   have C_wyxs := h_ (((C_wyx.out.setCell (p := ⟨wy.heap.size, 0, none⟩) (.inr (C_wy.out.size)) (.int .i64 x.1)).setCell (p := ⟨wy.heap.size, 1, none⟩) (.inr (C_wy.out.size)) (.int .i64 x.2.1)).setCell (p := ⟨wy.heap.size, 2, none⟩) (.inr (C_wy.out.size)) (.int .i64 x.2.2))
   have OB := h_ (((heap_setCell_other ((wyx.setCell ⟨wy.heap.size, 0, none⟩ (.int .i64 x.1)).setCell ⟨wy.heap.size, 1, none⟩ (.int .i64 x.2.1)) ⟨wy.heap.size, 2, none⟩ (wd.heap.size) (.int .i64 x.2.2) (by simp; have := PL.out; have := QL.out; omega)).trans ((heap_setCell_other (wyx.setCell ⟨wy.heap.size, 0, none⟩ (.int .i64 x.1)) ⟨wy.heap.size, 1, none⟩ (wd.heap.size) (.int .i64 x.2.1) (by simp; have := PL.out; have := QL.out; omega)).trans ((heap_setCell_other (wyx) ⟨wy.heap.size, 0, none⟩ (wd.heap.size) (.int .i64 x.1) (by simp; have := PL.out; have := QL.out; omega)).trans QB.out))))
   go_simp; clear z0 z1 z2 fz0 fz1 fz2 p0 p1 p2 hHeld PB QB
   generalize (((wyx.setCell ⟨wy.heap.size, 0, none⟩ (.int .i64 x.1)).setCell ⟨wy.heap.size, 1, none⟩ (.int .i64 x.2.1)).setCell ⟨wy.heap.size, 2, none⟩ (.int .i64 x.2.2)) = wyxs at *
   have PB := NB
   have QB := OB
   clear NB OB
   refine hK.out _ _ (HH.out wyxs C_wyxs.out) (fun hHeld => ?_)
   clear hK K; try simp only [Act.put, sA, s0, s1]
   refine on1 13 rfl (fun K hK => ?_)
   have z0 := cell_of QB.out 0
   have z1 := cell_of QB.out 1
   have z2 := cell_of QB.out 2
   have fz0 := free_of QB.out 0
   have fz1 := free_of QB.out 1
   have fz2 := free_of QB.out 2
   simp only [gA, gY, gZ] at z0 z1 z2
   have p0 := heap_setCell_same wyxs (wd.heap.size) 0 _ _ (.int .i64 y.1) QB.out
   have p1 := heap_setCell_same ((wyxs.setCell ⟨wd.heap.size, 0, none⟩ (.int .i64 y.1))) (wd.heap.size) 1 _ _ (.int .i64 y.2.1) p0
   have p2 := heap_setCell_same (((wyxs.setCell ⟨wd.heap.size, 0, none⟩ (.int .i64 y.1)).setCell ⟨wd.heap.size, 1, none⟩ (.int .i64 y.2.1))) (wd.heap.size) 2 _ _ (.int .i64 y.2.2) p1
   simp only [sA, s0, s1] at p2
   have NB := h_ p2
   have C_wyxss := h_ (((C_wyxs.out.setCell (p := ⟨wd.heap.size, 0, none⟩) (.inr (Nat.le_refl _)) (.int .i64 y.1)).setCell (p := ⟨wd.heap.size, 1, none⟩) (.inr (Nat.le_refl _)) (.int .i64 y.2.1)).setCell (p := ⟨wd.heap.size, 2, none⟩) (.inr (Nat.le_refl _)) (.int .i64 y.2.2))
   have OB := h_ (((heap_setCell_other ((wyxs.setCell ⟨wd.heap.size, 0, none⟩ (.int .i64 y.1)).setCell ⟨wd.heap.size, 1, none⟩ (.int .i64 y.2.1)) ⟨wd.heap.size, 2, none⟩ (wy.heap.size) (.int .i64 y.2.2) (by simp; have := PL.out; have := QL.out; omega)).trans ((heap_setCell_other (wyxs.setCell ⟨wd.heap.size, 0, none⟩ (.int .i64 y.1)) ⟨wd.heap.size, 1, none⟩ (wy.heap.size) (.int .i64 y.2.1) (by simp; have := PL.out; have := QL.out; omega)).trans ((heap_setCell_other (wyxs) ⟨wd.heap.size, 0, none⟩ (wy.heap.size) (.int .i64 y.1) (by simp; have := PL.out; have := QL.out; omega)).trans PB.out))))
   go_simp; clear z0 z1 z2 fz0 fz1 fz2 p0 p1 p2 hHeld QB PB
   generalize (((wyxs.setCell ⟨wd.heap.size, 0, none⟩ (.int .i64 y.1)).setCell ⟨wd.heap.size, 1, none⟩ (.int .i64 y.2.1)).setCell ⟨wd.heap.size, 2, none⟩ (.int .i64 y.2.2)) = wyxss at *
   have QB := NB
   have PB := OB
   clear NB OB
   refine hK.out _ _ (HH.out wyxss C_wyxss.out) (fun hHeld => ?_)
   clear hK K; try simp only [Act.put, sA, s0, s1]
   refine wpAnyH_done (by kernel_rfl) ?_ _
   have FACTS : Hid (wyxss.heap[wy.heap.size]? = some (.cells #[.int .i64 x.1, .int .i64 x.2.1, .int .i64 x.2.2] 81 (0, 0))) ∧ Hid (wyxss.heap[wd.heap.size]? = some (.cells #[.int .i64 y.1, .int .i64 y.2.1, .int .i64 y.2.2] 81 (0, 0))) ∧ Hid (g0 < wy.heap.size ∧ g0 < wd.heap.size ∧ wy.heap.size ≠ wd.heap.size) ∧ Hid (Chg [] wd wyxss) := ⟨PB, QB, h_ (by have := PL.out; have := QL.out; have := L1.out; have := C_wy.out.size; refine ⟨?_, ?_, ?_⟩ <;> omega), C_wyxss⟩
   generalize wy.heap.size = p at FACTS ⊢
   generalize wd.heap.size = q at FACTS ⊢
   exact JOIN p q wyxss FACTS
 case rest =>
  rintro p q w2 ⟨PB, QB, PQ, C2⟩
  clear HH
  have R2 := h_ (C2.out.at_ B1.out (by simp))
  have CW := h_ (CD2.out.trans C2.out)
  replace H := h_ (H.out.chg CW.out (by simp) (by simp))
  clear G1 B1 CD2 C2 CD HG
  obtain ⟨x0, x1, x2⟩ := ce3 PB.out
  obtain ⟨y0, y1, y2⟩ := ce3 QB.out
  have e1 := E1H.out
  have e2 := E2H.out
  have hm := HMH.out
  have f1 : ¬ x.1 < y.1 := by omega
  have f2 : ¬ y.1 < x.1 := by omega
  have f3 : ((x.1 == y.1) : Bool) = true := by simpa using e1
  have f4 : ((y.1 == x.1) : Bool) = true := by simpa using e1.symm
  have f5 : x.2.1 ≤ y.2.1 := by omega
  have f6 : y.2.1 ≤ x.2.1 := by omega
  clear e1 e2
  have z0 := cell_of R2.out 0
  have z1 := cell_of R2.out 1
  have z2 := cell_of R2.out 2
  have fz0 := free_of R2.out 0
  have fz1 := free_of R2.out 1
  have fz2 := free_of R2.out 2
  simp only [gA, gY, gZ] at z0 z1 z2
  have p0 := heap_setCell_same w2 g0 0 _ _ (.int .i64 x.1) R2.out
  have p1 := heap_setCell_same ((w2.setCell ⟨g0, 0, none⟩ (.int .i64 x.1))) g0 1 _ _ (.int .i64 x.2.1) p0
  have p2 := heap_setCell_same (((w2.setCell ⟨g0, 0, none⟩ (.int .i64 x.1)).setCell ⟨g0, 1, none⟩ (.int .i64 x.2.1))) g0 2 _ _ (.int .i64 x.2.2) p1
  simp only [sA, s0, s1] at p2
  have RB := h_ p2
  have CS := h_ ((((Chg.refl [g0] w2).setCell (p := ⟨g0, 0, none⟩) (.inl (by simp)) (.int .i64 x.1)).setCell (p := ⟨g0, 1, none⟩) (.inl (by simp)) (.int .i64 x.2.1)).setCell (p := ⟨g0, 2, none⟩) (.inl (by simp)) (.int .i64 x.2.2))
  clear p0 p1 p2
  go_upto_region 10 with fail
  generalize (((w2.setCell ⟨g0, 0, none⟩ (.int .i64 x.1)).setCell ⟨g0, 1, none⟩ (.int .i64 x.2.1)).setCell ⟨g0, 2, none⟩ (.int .i64 x.2.2)) = w3 at *
  replace CW := h_ (CW.out.trans' CS.out (fun z hz => by simp at hz; subst hz; exact .inr (Nat.le_of_eq hg0)))
  have NG : Hid (g0 ∉ [g]) := h_ (by simp; have := GL.out; omega)
  have NG2 : Hid (g ∉ [g0] ∧ ∀ z ∈ X, z ∉ [g0]) := h_ ⟨by simp; have := GL.out; omega, fun z hz => by have := hX z hz; simp; omega⟩
  replace H := h_ (H.out.chg CS.out NG2.out.1 NG2.out.2)
  clear CS
  have CG := h_ (CW.out.mono (S' := [g]) (by simp))
  clear CW; clear z0 z1 z2 fz0 fz1 fz2
  have z2 := cell_of RB.out 2
  simp only [gA, gY, gZ] at z2
  refine wp_region_held_drew (S := fun w' => w'.cell? ⟨g0, 2, none⟩ = some (.int .i64 x.2.2)) (by kernel_rfl) z2 (fun hHeld => ?_)
  have CD := h_ (Chg.refl [] w3).drew
  replace H := h_ (H.out.chg CD.out (by simp) (by simp))
  replace RB := h_ (CD.out.at_ RB.out (by simp))
  replace CG := h_ (CG.out.trans (CD.out.mono (by simp)))
  clear CD z2
  generalize w3.drew = wd10 at *
  refine sy 0 79 rfl rfl ?_; try simp only [Act.put, sA, s0, s1]
  refine sy 1 80 rfl rfl ?_; try simp only [Act.put, sA, s0, s1]
  refine sy 2 81 rfl rfl ?_; try simp only [Act.put, sA, s0, s1]
  refine sy 3 82 rfl rfl ?_; try simp only [Act.put, sA, s0, s1]
  refine sy 4 83 rfl rfl ?_ (hy := by (intro w hSw; (try dsimp only at hSw); have q := hSw; go_simp; try with_reducible rfl))
  try simp only [Act.put, sA, s0, s1]
  refine on1 5 rfl (fun K hK => ?_)
  go_simp
  refine (pass_a wd10 g _ _ _ _ _ A c x r _ HTO.out H.out.hg H.out.ra H.out.ca (fun a ha e => H.out.gx (e ▸ H.out.na.resolve_left (by simp) a ha))).mono ?_
  rintro e wp10 ⟨rfl, A', c', h1, h2, h3, h4, h5⟩
  have HN : Hid (SwQ wp10 g X (passP (x :: r) _) _ kf A' c' _ _) := h_ ⟨h1, h2, h3, .inr (fun a ha => by obtain ⟨b, hb, e⟩ := h4 a ha; rw [e]; exact H.out.na.resolve_left (by simp) b hb), H.out.rbchg h5, H.out.cb, H.out.nb, H.out.gx⟩
  replace RB := h_ (h5.at_ RB.out NG.out)
  replace CG := h_ (CG.out.trans h5)
  clear h1 h2 h3 h4 h5 hHeld H
  have H := HN
  clear HN
  refine hK.out _ _ (by have z := cell_of RB.out 2; simp only [gA, gY, gZ] at z; exact z) (fun hHeld => ?_)
  clear hK K; try simp only [Act.put, sA, s0, s1]
  refine wpAnyH_done (by kernel_rfl) ?_ _; clear hHeld
  go_upto_region 12 with fail
  have z2 := cell_of RB.out 2
  simp only [gA, gY, gZ] at z2
  refine wp_region_held_drew (S := fun w' => w'.cell? ⟨g0, 2, none⟩ = some (.int .i64 x.2.2)) (by kernel_rfl) z2 (fun hHeld => ?_)
  have CD := h_ (Chg.refl [] wp10).drew
  replace H := h_ (H.out.chg CD.out (by simp) (by simp))
  replace RB := h_ (CD.out.at_ RB.out (by simp))
  replace CG := h_ (CG.out.trans (CD.out.mono (by simp)))
  clear CD z2
  generalize wp10.drew = wd12 at *
  refine sy 0 86 rfl rfl ?_; try simp only [Act.put, sA, s0, s1]
  refine sy 1 87 rfl rfl ?_; try simp only [Act.put, sA, s0, s1]
  refine sy 2 88 rfl rfl ?_; try simp only [Act.put, sA, s0, s1]
  refine sy 3 89 rfl rfl ?_; try simp only [Act.put, sA, s0, s1]
  refine sy 4 90 rfl rfl ?_ (hy := by (intro w hSw; (try dsimp only at hSw); have q := hSw; go_simp; try with_reducible rfl))
  try simp only [Act.put, sA, s0, s1]
  refine on1 5 rfl (fun K hK => ?_)
  go_simp
  refine (pass_b wd12 g _ _ _ _ _ B d y r2 _ HTO.out H.out.hg H.out.rb H.out.cb (fun a ha e => H.out.gx (e ▸ H.out.nb.resolve_left (by simp) a ha))).mono ?_
  rintro e wp12 ⟨rfl, B', d', h1, h2, h3, h4, h5⟩
  have HN : Hid (SwQ wp12 g X _ (passP (y :: r2) _) kf _ _ B' d') := h_ ⟨h1, H.out.rachg h5, H.out.ca, H.out.na, h2, h3, .inr (fun a ha => by obtain ⟨b, hb, e⟩ := h4 a ha; rw [e]; exact H.out.nb.resolve_left (by simp) b hb), H.out.gx⟩
  replace RB := h_ (h5.at_ RB.out NG.out)
  replace CG := h_ (CG.out.trans h5)
  clear h1 h2 h3 h4 h5 hHeld H
  have H := HN
  clear HN
  refine hK.out _ _ (by have z := cell_of RB.out 2; simp only [gA, gY, gZ] at z; exact z) (fun hHeld => ?_)
  clear hK K; try simp only [Act.put, sA, s0, s1]
  refine wpAnyH_done (by kernel_rfl) ?_ _; clear hHeld
  have z0 := cell_of RB.out 0
  have z1 := cell_of RB.out 1
  have z2 := cell_of RB.out 2
  have fz0 := free_of RB.out 0
  have fz1 := free_of RB.out 1
  have fz2 := free_of RB.out 2
  simp only [gA, gY, gZ] at z0 z1 z2
  have p0 := heap_setCell_same wp12 g0 0 _ _ (.int .i64 x.1) RB.out
  have p1 := heap_setCell_same ((wp12.setCell ⟨g0, 0, none⟩ (.int .i64 x.1))) g0 1 _ _ (.int .i64 x.2.1) p0
  have p2 := heap_setCell_same (((wp12.setCell ⟨g0, 0, none⟩ (.int .i64 x.1)).setCell ⟨g0, 1, none⟩ (.int .i64 x.2.1))) g0 2 _ _ (.int .i64 x.2.2) p1
  simp only [sA, s0, s1] at p2
  have RF := h_ p2
  have CF := h_ ((((Chg.refl [g0] wp12).setCell (p := ⟨g0, 0, none⟩) (.inl (by simp)) (.int .i64 x.1)).setCell (p := ⟨g0, 1, none⟩) (.inl (by simp)) (.int .i64 x.2.1)).setCell (p := ⟨g0, 2, none⟩) (.inl (by simp)) (.int .i64 x.2.2))
  clear p0 p1 p2; go_wp2
  generalize (((wp12.setCell ⟨g0, 0, none⟩ (.int .i64 x.1)).setCell ⟨g0, 1, none⟩ (.int .i64 x.2.1)).setCell ⟨g0, 2, none⟩ (.int .i64 x.2.2)) = wf at *
  clear z0 z1 z2 fz0 fz1 fz2
  obtain ⟨z0, z1, z2⟩ := ce3 RF.out
  refine bodyPost_ret (v := .tuple #[.agg #[.int .i64 x.1, .int .i64 x.2.1, .int .i64 x.2.2], .bool true, .bool true]) (by simp [results, Tryz.results192, go_sem, z0, z1, z2]) rfl ?_
  exact ⟨rfl, ⟨_, _, _, _, H.out.chg CF.out NG2.out.1 NG2.out.2⟩, CG.out.trans' CF.out (fun z hz => by simp at hz; subst hz; exact .inr (Nat.le_of_eq hg0))⟩
set_option maxRecDepth 100000 in
theorem step_both_ge (w : World) (g : Nat) (X : List Nat) (kf : Nat) (A : Option Addr) (c : Nat) (B : Option Addr) (d : Nat) (x y : Sp) (r r2 : List Sp) (e1 : x.1 = y.1) (e2 : x.2.1 = y.2.1) (hm : ¬ x.2.2 ≤ y.2.2) (h : SwQ w g X (x :: r) (y :: r2) kf A c B d) (hX : ∀ z ∈ X, z < w.heap.size) (HTO : Hid (0 ≤ y.2.2 ∧ y.2.2 ≤ 2147483647)) : Calls Tryz.prog 192 #[.pointer (some ⟨g, 0, none⟩)] w fun e w' => e = .returned (.tuple #[.agg #[.int .i64 x.1, .int .i64 x.2.1, .int .i64 y.2.2], .bool true, .bool true]) ∧ SwP w' g X (passP (x :: r) y.2.2) (passP (y :: r2) y.2.2) kf ∧ Chg [g] w w' := by
 have E1H := h_ e1
 have E2H := h_ e2
 have HMH := h_ hm
 clear e1 e2 hm
 have H := h_ h
 clear h
 have hmin : min x.2.2 y.2.2 = y.2.2 := by have := HMH.out; omega
 have HG : Hid (w.heap[g]? = some (.cells #[.int .i64 x.1, .int .i64 x.2.1, .int .i64 x.2.2, .slice A r.length c, .int .i64 y.1, .int .i64 y.2.1, .int .i64 y.2.2, .slice B r2.length d, .func (.func kf) #[] #[]] 214 (0, 0))) := h_ (H.out.hg)
 obtain ⟨w1, hw1, c1, b1⟩ := news1 w (.cells #[.int .i64 0, .int .i64 0, .int .i64 0] 81)
 have W1 := h_ hw1
 have C1 := h_ c1
 have B1 := h_ b1
 have L1 := h_ (show w.heap.size < w1.heap.size from lt_of_heap b1)
 have G1 := h_ (c1.at_ HG.out (by simp))
 have GL := h_ (lt_of_heap HG.out)
 clear hw1 c1 b1
 go_enter Tryz.func192, Tryz.ntmps192
 go_upto_region 1 with fail
 rw [← W1.out]
 generalize hg0 : w.heap.size = g0 at *
 obtain ⟨z0, z1, z2⟩ := ce3 G1.out
 have z4 := cell_of G1.out 4
 have z5 := cell_of G1.out 5
 have z6 := cell_of G1.out 6
 simp only [gA, gY, gZ] at z4 z5 z6
 refine wp_region_held_drew (S := fun w' => w'.cell? ⟨g, 0, none⟩ = some (.int .i64 x.1) ∧ w'.cell? ⟨g, 1, none⟩ = some (.int .i64 x.2.1) ∧ w'.cell? ⟨g, 2, none⟩ = some (.int .i64 x.2.2) ∧ w'.cell? ⟨g, 4, none⟩ = some (.int .i64 y.1) ∧ w'.cell? ⟨g, 5, none⟩ = some (.int .i64 y.2.1) ∧ w'.cell? ⟨g, 6, none⟩ = some (.int .i64 y.2.2)) (by kernel_rfl) ⟨z0, z1, z2, z4, z5, z6⟩ (fun hHeld => ?_)
 have CD := h_ (Chg.refl [] w1).drew
 have HH := h_ (fun (w' : World) (hc : Chg [] w1.drew w') => (⟨(CD.out.trans hc).cell z0 (by simp), (CD.out.trans hc).cell z1 (by simp), (CD.out.trans hc).cell z2 (by simp), (CD.out.trans hc).cell z4 (by simp), (CD.out.trans hc).cell z5 (by simp), (CD.out.trans hc).cell z6 (by simp)⟩ : w'.cell? ⟨g, 0, none⟩ = some (.int .i64 x.1) ∧ w'.cell? ⟨g, 1, none⟩ = some (.int .i64 x.2.1) ∧ w'.cell? ⟨g, 2, none⟩ = some (.int .i64 x.2.2) ∧ w'.cell? ⟨g, 4, none⟩ = some (.int .i64 y.1) ∧ w'.cell? ⟨g, 5, none⟩ = some (.int .i64 y.2.1) ∧ w'.cell? ⟨g, 6, none⟩ = some (.int .i64 y.2.2)))
 have CD2 := h_ (C1.out.trans CD.out)
 replace B1 := h_ (show w1.drew.heap[g0]? = _ from B1.out)
 replace L1 : Hid (g0 < w1.drew.heap.size) := h_ (Nat.lt_of_lt_of_le L1.out CD.out.size)
 clear z0 z1 z2 z4 z5 z6
 generalize w1.drew = wd at *
 refine' join3 (F := fun (p q : Nat) (w' : World) => Hid (w'.heap[p]? = some (.cells #[.int .i64 x.1, .int .i64 x.2.1, .int .i64 x.2.2] 81 (0, 0))) ∧ Hid (w'.heap[q]? = some (.cells #[.int .i64 y.1, .int .i64 y.2.1, .int .i64 y.2.2] 81 (0, 0))) ∧ Hid (g0 < p ∧ g0 < q ∧ p ≠ q) ∧ Hid (Chg [] wd w')) (R := _) (fun JOIN => ?leaf) ?rest
 case leaf =>
  have hHeld := HH.out wd (Chg.refl [] wd)
  have C_wd := h_ (Chg.refl [] wd)
  refine sy 0 7 rfl rfl ?_; try simp only [Act.put, sA, s0, s1]
  refine sy 1 8 rfl rfl ?_; try simp only [Act.put, sA, s0, s1]
  refine sy 2 9 rfl rfl ?_; try simp only [Act.put, sA, s0, s1]
  refine sy 3 10 rfl rfl ?_; try simp only [Act.put, sA, s0, s1]
  refine sy 4 11 rfl rfl ?_ (hy := by (intro w hSw; (try dsimp only at hSw); obtain ⟨q0, q1, q2, q3, q4, q5⟩ := hSw; go_simp; try with_reducible rfl))
  try simp only [Act.put, sA, s0, s1]
  refine sy 5 12 rfl rfl ?_; try simp only [Act.put, sA, s0, s1]
  refine sy 6 13 rfl rfl ?_; try simp only [Act.put, sA, s0, s1]
  refine sy 7 14 rfl rfl ?_; try simp only [Act.put, sA, s0, s1]
  refine sy 8 15 rfl rfl ?_; try simp only [Act.put, sA, s0, s1]
  refine sy 9 16 rfl rfl ?_ (hy := by (intro w hSw; (try dsimp only at hSw); obtain ⟨q0, q1, q2, q3, q4, q5⟩ := hSw; go_simp; try with_reducible rfl))
  try simp only [Act.put, sA, s0, s1]
  refine wpAnyH_ready (rs := [10, 11]) (by kernel_rfl) (by simp) ?_
  refine AllReadyH.cons rfl (fun K hK => ?_) (AllReadyH.cons rfl (fun K hK => ?_) AllReadyH.nil)
  ·
   skip
   replace hK := h_ hK
   go_simp
   obtain ⟨wx, hw, cn, bn⟩ := news1 wd (.cells #[.int .i64 0, .int .i64 0, .int .i64 0] 81)
   rw [← hw]
   have PB := h_ bn
   have PL := h_ (show wd.heap.size < wx.heap.size from lt_of_heap bn)
   have C_wx := h_ (C_wd.out.trans cn)
   clear hw cn bn hHeld
   refine hK.out _ _ (HH.out wx C_wx.out) (fun hHeld => ?_)
   clear hK K; try simp only [Act.put, sA, s0, s1]
   refine on1 11 rfl (fun K hK => ?_)
   go_simp
   obtain ⟨wxy, hw, cn, bn⟩ := news1 wx (.cells #[.int .i64 0, .int .i64 0, .int .i64 0] 81)
   rw [← hw]
   have QB := h_ bn
   have QL := h_ (show wx.heap.size < wxy.heap.size from lt_of_heap bn)
   have C_wxy := h_ (C_wx.out.trans cn)
   replace PB := h_ (cn.at_ PB.out (by simp))
   clear hw cn bn hHeld
   refine hK.out _ _ (HH.out wxy C_wxy.out) (fun hHeld => ?_)
   clear hK K; try simp only [Act.put, sA, s0, s1]
   refine on1 12 rfl (fun K hK => ?_)
   have z0 := cell_of PB.out 0
   have z1 := cell_of PB.out 1
   have z2 := cell_of PB.out 2
   have fz0 := free_of PB.out 0
   have fz1 := free_of PB.out 1
   have fz2 := free_of PB.out 2
   simp only [gA, gY, gZ] at z0 z1 z2
   have p0 := heap_setCell_same wxy (wd.heap.size) 0 _ _ (.int .i64 x.1) PB.out
   have p1 := heap_setCell_same ((wxy.setCell ⟨wd.heap.size, 0, none⟩ (.int .i64 x.1))) (wd.heap.size) 1 _ _ (.int .i64 x.2.1) p0
   have p2 := heap_setCell_same (((wxy.setCell ⟨wd.heap.size, 0, none⟩ (.int .i64 x.1)).setCell ⟨wd.heap.size, 1, none⟩ (.int .i64 x.2.1))) (wd.heap.size) 2 _ _ (.int .i64 x.2.2) p1
   simp only [sA, s0, s1] at p2
   have NB := h_ p2
   have C_wxys := h_ (((C_wxy.out.setCell (p := ⟨wd.heap.size, 0, none⟩) (.inr (Nat.le_refl _)) (.int .i64 x.1)).setCell (p := ⟨wd.heap.size, 1, none⟩) (.inr (Nat.le_refl _)) (.int .i64 x.2.1)).setCell (p := ⟨wd.heap.size, 2, none⟩) (.inr (Nat.le_refl _)) (.int .i64 x.2.2))
   have OB := h_ (((heap_setCell_other ((wxy.setCell ⟨wd.heap.size, 0, none⟩ (.int .i64 x.1)).setCell ⟨wd.heap.size, 1, none⟩ (.int .i64 x.2.1)) ⟨wd.heap.size, 2, none⟩ (wx.heap.size) (.int .i64 x.2.2) (by simp; have := PL.out; have := QL.out; omega)).trans ((heap_setCell_other (wxy.setCell ⟨wd.heap.size, 0, none⟩ (.int .i64 x.1)) ⟨wd.heap.size, 1, none⟩ (wx.heap.size) (.int .i64 x.2.1) (by simp; have := PL.out; have := QL.out; omega)).trans ((heap_setCell_other (wxy) ⟨wd.heap.size, 0, none⟩ (wx.heap.size) (.int .i64 x.1) (by simp; have := PL.out; have := QL.out; omega)).trans QB.out))))
   go_simp; clear z0 z1 z2 fz0 fz1 fz2 p0 p1 p2 hHeld PB QB
   generalize (((wxy.setCell ⟨wd.heap.size, 0, none⟩ (.int .i64 x.1)).setCell ⟨wd.heap.size, 1, none⟩ (.int .i64 x.2.1)).setCell ⟨wd.heap.size, 2, none⟩ (.int .i64 x.2.2)) = wxys at *
   have PB := NB
   have QB := OB
   clear NB OB
   refine hK.out _ _ (HH.out wxys C_wxys.out) (fun hHeld => ?_)
   clear hK K; try simp only [Act.put, sA, s0, s1]
   refine on1 13 rfl (fun K hK => ?_)
   have z0 := cell_of QB.out 0
   have z1 := cell_of QB.out 1
   have z2 := cell_of QB.out 2
   have fz0 := free_of QB.out 0
   have fz1 := free_of QB.out 1
   have fz2 := free_of QB.out 2
   simp only [gA, gY, gZ] at z0 z1 z2
   have p0 := heap_setCell_same wxys (wx.heap.size) 0 _ _ (.int .i64 y.1) QB.out
   have p1 := heap_setCell_same ((wxys.setCell ⟨wx.heap.size, 0, none⟩ (.int .i64 y.1))) (wx.heap.size) 1 _ _ (.int .i64 y.2.1) p0
   have p2 := heap_setCell_same (((wxys.setCell ⟨wx.heap.size, 0, none⟩ (.int .i64 y.1)).setCell ⟨wx.heap.size, 1, none⟩ (.int .i64 y.2.1))) (wx.heap.size) 2 _ _ (.int .i64 y.2.2) p1
   simp only [sA, s0, s1] at p2
   have NB := h_ p2
   have C_wxyss := h_ (((C_wxys.out.setCell (p := ⟨wx.heap.size, 0, none⟩) (.inr (C_wx.out.size)) (.int .i64 y.1)).setCell (p := ⟨wx.heap.size, 1, none⟩) (.inr (C_wx.out.size)) (.int .i64 y.2.1)).setCell (p := ⟨wx.heap.size, 2, none⟩) (.inr (C_wx.out.size)) (.int .i64 y.2.2))
   have OB := h_ (((heap_setCell_other ((wxys.setCell ⟨wx.heap.size, 0, none⟩ (.int .i64 y.1)).setCell ⟨wx.heap.size, 1, none⟩ (.int .i64 y.2.1)) ⟨wx.heap.size, 2, none⟩ (wd.heap.size) (.int .i64 y.2.2) (by simp; have := PL.out; have := QL.out; omega)).trans ((heap_setCell_other (wxys.setCell ⟨wx.heap.size, 0, none⟩ (.int .i64 y.1)) ⟨wx.heap.size, 1, none⟩ (wd.heap.size) (.int .i64 y.2.1) (by simp; have := PL.out; have := QL.out; omega)).trans ((heap_setCell_other (wxys) ⟨wx.heap.size, 0, none⟩ (wd.heap.size) (.int .i64 y.1) (by simp; have := PL.out; have := QL.out; omega)).trans PB.out))))
   go_simp; clear z0 z1 z2 fz0 fz1 fz2 p0 p1 p2 hHeld QB PB
   generalize (((wxys.setCell ⟨wx.heap.size, 0, none⟩ (.int .i64 y.1)).setCell ⟨wx.heap.size, 1, none⟩ (.int .i64 y.2.1)).setCell ⟨wx.heap.size, 2, none⟩ (.int .i64 y.2.2)) = wxyss at *
   have QB := NB
   have PB := OB
   clear NB OB
   refine hK.out _ _ (HH.out wxyss C_wxyss.out) (fun hHeld => ?_)
   clear hK K; try simp only [Act.put, sA, s0, s1]
   refine wpAnyH_done (by kernel_rfl) ?_ _
   have FACTS : Hid (wxyss.heap[wd.heap.size]? = some (.cells #[.int .i64 x.1, .int .i64 x.2.1, .int .i64 x.2.2] 81 (0, 0))) ∧ Hid (wxyss.heap[wx.heap.size]? = some (.cells #[.int .i64 y.1, .int .i64 y.2.1, .int .i64 y.2.2] 81 (0, 0))) ∧ Hid (g0 < wd.heap.size ∧ g0 < wx.heap.size ∧ wd.heap.size ≠ wx.heap.size) ∧ Hid (Chg [] wd wxyss) := ⟨PB, QB, h_ (by have := PL.out; have := QL.out; have := L1.out; have := C_wx.out.size; refine ⟨?_, ?_, ?_⟩ <;> omega), C_wxyss⟩
   generalize wd.heap.size = p at FACTS ⊢
   generalize wx.heap.size = q at FACTS ⊢
   exact JOIN p q wxyss FACTS
  ·
   skip
   replace hK := h_ hK
   go_simp
   obtain ⟨wy, hw, cn, bn⟩ := news1 wd (.cells #[.int .i64 0, .int .i64 0, .int .i64 0] 81)
   rw [← hw]
   have QB := h_ bn
   have QL := h_ (show wd.heap.size < wy.heap.size from lt_of_heap bn)
   have C_wy := h_ (C_wd.out.trans cn)
   clear hw cn bn hHeld
   refine hK.out _ _ (HH.out wy C_wy.out) (fun hHeld => ?_)
   clear hK K; try simp only [Act.put, sA, s0, s1]
   refine on1 10 rfl (fun K hK => ?_)
   go_simp
   obtain ⟨wyx, hw, cn, bn⟩ := news1 wy (.cells #[.int .i64 0, .int .i64 0, .int .i64 0] 81)
   rw [← hw]
   have PB := h_ bn
   have PL := h_ (show wy.heap.size < wyx.heap.size from lt_of_heap bn)
   have C_wyx := h_ (C_wy.out.trans cn)
   replace QB := h_ (cn.at_ QB.out (by simp))
   clear hw cn bn hHeld
   refine hK.out _ _ (HH.out wyx C_wyx.out) (fun hHeld => ?_)
   clear hK K; try simp only [Act.put, sA, s0, s1]
   refine on1 12 rfl (fun K hK => ?_)
   have z0 := cell_of PB.out 0
   have z1 := cell_of PB.out 1
   have z2 := cell_of PB.out 2
   have fz0 := free_of PB.out 0
   have fz1 := free_of PB.out 1
   have fz2 := free_of PB.out 2
   simp only [gA, gY, gZ] at z0 z1 z2
   have p0 := heap_setCell_same wyx (wy.heap.size) 0 _ _ (.int .i64 x.1) PB.out
   have p1 := heap_setCell_same ((wyx.setCell ⟨wy.heap.size, 0, none⟩ (.int .i64 x.1))) (wy.heap.size) 1 _ _ (.int .i64 x.2.1) p0
   have p2 := heap_setCell_same (((wyx.setCell ⟨wy.heap.size, 0, none⟩ (.int .i64 x.1)).setCell ⟨wy.heap.size, 1, none⟩ (.int .i64 x.2.1))) (wy.heap.size) 2 _ _ (.int .i64 x.2.2) p1
   simp only [sA, s0, s1] at p2
   have NB := h_ p2
   have C_wyxs := h_ (((C_wyx.out.setCell (p := ⟨wy.heap.size, 0, none⟩) (.inr (C_wy.out.size)) (.int .i64 x.1)).setCell (p := ⟨wy.heap.size, 1, none⟩) (.inr (C_wy.out.size)) (.int .i64 x.2.1)).setCell (p := ⟨wy.heap.size, 2, none⟩) (.inr (C_wy.out.size)) (.int .i64 x.2.2))
   have OB := h_ (((heap_setCell_other ((wyx.setCell ⟨wy.heap.size, 0, none⟩ (.int .i64 x.1)).setCell ⟨wy.heap.size, 1, none⟩ (.int .i64 x.2.1)) ⟨wy.heap.size, 2, none⟩ (wd.heap.size) (.int .i64 x.2.2) (by simp; have := PL.out; have := QL.out; omega)).trans ((heap_setCell_other (wyx.setCell ⟨wy.heap.size, 0, none⟩ (.int .i64 x.1)) ⟨wy.heap.size, 1, none⟩ (wd.heap.size) (.int .i64 x.2.1) (by simp; have := PL.out; have := QL.out; omega)).trans ((heap_setCell_other (wyx) ⟨wy.heap.size, 0, none⟩ (wd.heap.size) (.int .i64 x.1) (by simp; have := PL.out; have := QL.out; omega)).trans QB.out))))
   go_simp; clear z0 z1 z2 fz0 fz1 fz2 p0 p1 p2 hHeld PB QB
   generalize (((wyx.setCell ⟨wy.heap.size, 0, none⟩ (.int .i64 x.1)).setCell ⟨wy.heap.size, 1, none⟩ (.int .i64 x.2.1)).setCell ⟨wy.heap.size, 2, none⟩ (.int .i64 x.2.2)) = wyxs at *
   have PB := NB
   have QB := OB
   clear NB OB
   refine hK.out _ _ (HH.out wyxs C_wyxs.out) (fun hHeld => ?_)
   clear hK K; try simp only [Act.put, sA, s0, s1]
   refine on1 13 rfl (fun K hK => ?_)
   have z0 := cell_of QB.out 0
   have z1 := cell_of QB.out 1
   have z2 := cell_of QB.out 2
   have fz0 := free_of QB.out 0
   have fz1 := free_of QB.out 1
   have fz2 := free_of QB.out 2
   simp only [gA, gY, gZ] at z0 z1 z2
   have p0 := heap_setCell_same wyxs (wd.heap.size) 0 _ _ (.int .i64 y.1) QB.out
   have p1 := heap_setCell_same ((wyxs.setCell ⟨wd.heap.size, 0, none⟩ (.int .i64 y.1))) (wd.heap.size) 1 _ _ (.int .i64 y.2.1) p0
   have p2 := heap_setCell_same (((wyxs.setCell ⟨wd.heap.size, 0, none⟩ (.int .i64 y.1)).setCell ⟨wd.heap.size, 1, none⟩ (.int .i64 y.2.1))) (wd.heap.size) 2 _ _ (.int .i64 y.2.2) p1
   simp only [sA, s0, s1] at p2
   have NB := h_ p2
   have C_wyxss := h_ (((C_wyxs.out.setCell (p := ⟨wd.heap.size, 0, none⟩) (.inr (Nat.le_refl _)) (.int .i64 y.1)).setCell (p := ⟨wd.heap.size, 1, none⟩) (.inr (Nat.le_refl _)) (.int .i64 y.2.1)).setCell (p := ⟨wd.heap.size, 2, none⟩) (.inr (Nat.le_refl _)) (.int .i64 y.2.2))
   have OB := h_ (((heap_setCell_other ((wyxs.setCell ⟨wd.heap.size, 0, none⟩ (.int .i64 y.1)).setCell ⟨wd.heap.size, 1, none⟩ (.int .i64 y.2.1)) ⟨wd.heap.size, 2, none⟩ (wy.heap.size) (.int .i64 y.2.2) (by simp; have := PL.out; have := QL.out; omega)).trans ((heap_setCell_other (wyxs.setCell ⟨wd.heap.size, 0, none⟩ (.int .i64 y.1)) ⟨wd.heap.size, 1, none⟩ (wy.heap.size) (.int .i64 y.2.1) (by simp; have := PL.out; have := QL.out; omega)).trans ((heap_setCell_other (wyxs) ⟨wd.heap.size, 0, none⟩ (wy.heap.size) (.int .i64 y.1) (by simp; have := PL.out; have := QL.out; omega)).trans PB.out))))
   go_simp; clear z0 z1 z2 fz0 fz1 fz2 p0 p1 p2 hHeld QB PB
   generalize (((wyxs.setCell ⟨wd.heap.size, 0, none⟩ (.int .i64 y.1)).setCell ⟨wd.heap.size, 1, none⟩ (.int .i64 y.2.1)).setCell ⟨wd.heap.size, 2, none⟩ (.int .i64 y.2.2)) = wyxss at *
   have QB := NB
   have PB := OB
   clear NB OB
   refine hK.out _ _ (HH.out wyxss C_wyxss.out) (fun hHeld => ?_)
   clear hK K; try simp only [Act.put, sA, s0, s1]
   refine wpAnyH_done (by kernel_rfl) ?_ _
   have FACTS : Hid (wyxss.heap[wy.heap.size]? = some (.cells #[.int .i64 x.1, .int .i64 x.2.1, .int .i64 x.2.2] 81 (0, 0))) ∧ Hid (wyxss.heap[wd.heap.size]? = some (.cells #[.int .i64 y.1, .int .i64 y.2.1, .int .i64 y.2.2] 81 (0, 0))) ∧ Hid (g0 < wy.heap.size ∧ g0 < wd.heap.size ∧ wy.heap.size ≠ wd.heap.size) ∧ Hid (Chg [] wd wyxss) := ⟨PB, QB, h_ (by have := PL.out; have := QL.out; have := L1.out; have := C_wy.out.size; refine ⟨?_, ?_, ?_⟩ <;> omega), C_wyxss⟩
   generalize wy.heap.size = p at FACTS ⊢
   generalize wd.heap.size = q at FACTS ⊢
   exact JOIN p q wyxss FACTS
 case rest =>
  rintro p q w2 ⟨PB, QB, PQ, C2⟩
  clear HH
  have R2 := h_ (C2.out.at_ B1.out (by simp))
  have CW := h_ (CD2.out.trans C2.out)
  replace H := h_ (H.out.chg CW.out (by simp) (by simp))
  clear G1 B1 CD2 C2 CD HG
  obtain ⟨x0, x1, x2⟩ := ce3 PB.out
  obtain ⟨y0, y1, y2⟩ := ce3 QB.out
  have e1 := E1H.out
  have e2 := E2H.out
  have hm := HMH.out
  have f1 : ¬ x.1 < y.1 := by omega
  have f2 : ¬ y.1 < x.1 := by omega
  have f3 : ((x.1 == y.1) : Bool) = true := by simpa using e1
  have f4 : ((y.1 == x.1) : Bool) = true := by simpa using e1.symm
  have f5 : x.2.1 ≤ y.2.1 := by omega
  have f6 : y.2.1 ≤ x.2.1 := by omega
  clear e1 e2
  have z0 := cell_of R2.out 0
  have z1 := cell_of R2.out 1
  have z2 := cell_of R2.out 2
  have fz0 := free_of R2.out 0
  have fz1 := free_of R2.out 1
  have fz2 := free_of R2.out 2
  simp only [gA, gY, gZ] at z0 z1 z2
  have p0 := heap_setCell_same w2 g0 0 _ _ (.int .i64 x.1) R2.out
  have p1 := heap_setCell_same ((w2.setCell ⟨g0, 0, none⟩ (.int .i64 x.1))) g0 1 _ _ (.int .i64 x.2.1) p0
  have p2 := heap_setCell_same (((w2.setCell ⟨g0, 0, none⟩ (.int .i64 x.1)).setCell ⟨g0, 1, none⟩ (.int .i64 x.2.1))) g0 2 _ _ (.int .i64 y.2.2) p1
  simp only [sA, s0, s1] at p2
  have RB := h_ p2
  have CS := h_ ((((Chg.refl [g0] w2).setCell (p := ⟨g0, 0, none⟩) (.inl (by simp)) (.int .i64 x.1)).setCell (p := ⟨g0, 1, none⟩) (.inl (by simp)) (.int .i64 x.2.1)).setCell (p := ⟨g0, 2, none⟩) (.inl (by simp)) (.int .i64 y.2.2))
  clear p0 p1 p2
  go_upto_region 10 with fail
  generalize (((w2.setCell ⟨g0, 0, none⟩ (.int .i64 x.1)).setCell ⟨g0, 1, none⟩ (.int .i64 x.2.1)).setCell ⟨g0, 2, none⟩ (.int .i64 y.2.2)) = w3 at *
  replace CW := h_ (CW.out.trans' CS.out (fun z hz => by simp at hz; subst hz; exact .inr (Nat.le_of_eq hg0)))
  have NG : Hid (g0 ∉ [g]) := h_ (by simp; have := GL.out; omega)
  have NG2 : Hid (g ∉ [g0] ∧ ∀ z ∈ X, z ∉ [g0]) := h_ ⟨by simp; have := GL.out; omega, fun z hz => by have := hX z hz; simp; omega⟩
  replace H := h_ (H.out.chg CS.out NG2.out.1 NG2.out.2)
  clear CS
  have CG := h_ (CW.out.mono (S' := [g]) (by simp))
  clear CW; clear z0 z1 z2 fz0 fz1 fz2
  have z2 := cell_of RB.out 2
  simp only [gA, gY, gZ] at z2
  refine wp_region_held_drew (S := fun w' => w'.cell? ⟨g0, 2, none⟩ = some (.int .i64 y.2.2)) (by kernel_rfl) z2 (fun hHeld => ?_)
  have CD := h_ (Chg.refl [] w3).drew
  replace H := h_ (H.out.chg CD.out (by simp) (by simp))
  replace RB := h_ (CD.out.at_ RB.out (by simp))
  replace CG := h_ (CG.out.trans (CD.out.mono (by simp)))
  clear CD z2
  generalize w3.drew = wd10 at *
  refine sy 0 79 rfl rfl ?_; try simp only [Act.put, sA, s0, s1]
  refine sy 1 80 rfl rfl ?_; try simp only [Act.put, sA, s0, s1]
  refine sy 2 81 rfl rfl ?_; try simp only [Act.put, sA, s0, s1]
  refine sy 3 82 rfl rfl ?_; try simp only [Act.put, sA, s0, s1]
  refine sy 4 83 rfl rfl ?_ (hy := by (intro w hSw; (try dsimp only at hSw); have q := hSw; go_simp; try with_reducible rfl))
  try simp only [Act.put, sA, s0, s1]
  refine on1 5 rfl (fun K hK => ?_)
  go_simp
  refine (pass_a wd10 g _ _ _ _ _ A c x r _ HTO.out H.out.hg H.out.ra H.out.ca (fun a ha e => H.out.gx (e ▸ H.out.na.resolve_left (by simp) a ha))).mono ?_
  rintro e wp10 ⟨rfl, A', c', h1, h2, h3, h4, h5⟩
  have HN : Hid (SwQ wp10 g X (passP (x :: r) _) _ kf A' c' _ _) := h_ ⟨h1, h2, h3, .inr (fun a ha => by obtain ⟨b, hb, e⟩ := h4 a ha; rw [e]; exact H.out.na.resolve_left (by simp) b hb), H.out.rbchg h5, H.out.cb, H.out.nb, H.out.gx⟩
  replace RB := h_ (h5.at_ RB.out NG.out)
  replace CG := h_ (CG.out.trans h5)
  clear h1 h2 h3 h4 h5 hHeld H
  have H := HN
  clear HN
  refine hK.out _ _ (by have z := cell_of RB.out 2; simp only [gA, gY, gZ] at z; exact z) (fun hHeld => ?_)
  clear hK K; try simp only [Act.put, sA, s0, s1]
  refine wpAnyH_done (by kernel_rfl) ?_ _; clear hHeld
  go_upto_region 12 with fail
  have z2 := cell_of RB.out 2
  simp only [gA, gY, gZ] at z2
  refine wp_region_held_drew (S := fun w' => w'.cell? ⟨g0, 2, none⟩ = some (.int .i64 y.2.2)) (by kernel_rfl) z2 (fun hHeld => ?_)
  have CD := h_ (Chg.refl [] wp10).drew
  replace H := h_ (H.out.chg CD.out (by simp) (by simp))
  replace RB := h_ (CD.out.at_ RB.out (by simp))
  replace CG := h_ (CG.out.trans (CD.out.mono (by simp)))
  clear CD z2
  generalize wp10.drew = wd12 at *
  refine sy 0 86 rfl rfl ?_; try simp only [Act.put, sA, s0, s1]
  refine sy 1 87 rfl rfl ?_; try simp only [Act.put, sA, s0, s1]
  refine sy 2 88 rfl rfl ?_; try simp only [Act.put, sA, s0, s1]
  refine sy 3 89 rfl rfl ?_; try simp only [Act.put, sA, s0, s1]
  refine sy 4 90 rfl rfl ?_ (hy := by (intro w hSw; (try dsimp only at hSw); have q := hSw; go_simp; try with_reducible rfl))
  try simp only [Act.put, sA, s0, s1]
  refine on1 5 rfl (fun K hK => ?_)
  go_simp
  refine (pass_b wd12 g _ _ _ _ _ B d y r2 _ HTO.out H.out.hg H.out.rb H.out.cb (fun a ha e => H.out.gx (e ▸ H.out.nb.resolve_left (by simp) a ha))).mono ?_
  rintro e wp12 ⟨rfl, B', d', h1, h2, h3, h4, h5⟩
  have HN : Hid (SwQ wp12 g X _ (passP (y :: r2) _) kf _ _ B' d') := h_ ⟨h1, H.out.rachg h5, H.out.ca, H.out.na, h2, h3, .inr (fun a ha => by obtain ⟨b, hb, e⟩ := h4 a ha; rw [e]; exact H.out.nb.resolve_left (by simp) b hb), H.out.gx⟩
  replace RB := h_ (h5.at_ RB.out NG.out)
  replace CG := h_ (CG.out.trans h5)
  clear h1 h2 h3 h4 h5 hHeld H
  have H := HN
  clear HN
  refine hK.out _ _ (by have z := cell_of RB.out 2; simp only [gA, gY, gZ] at z; exact z) (fun hHeld => ?_)
  clear hK K; try simp only [Act.put, sA, s0, s1]
  refine wpAnyH_done (by kernel_rfl) ?_ _; clear hHeld
  have z0 := cell_of RB.out 0
  have z1 := cell_of RB.out 1
  have z2 := cell_of RB.out 2
  have fz0 := free_of RB.out 0
  have fz1 := free_of RB.out 1
  have fz2 := free_of RB.out 2
  simp only [gA, gY, gZ] at z0 z1 z2
  have p0 := heap_setCell_same wp12 g0 0 _ _ (.int .i64 x.1) RB.out
  have p1 := heap_setCell_same ((wp12.setCell ⟨g0, 0, none⟩ (.int .i64 x.1))) g0 1 _ _ (.int .i64 x.2.1) p0
  have p2 := heap_setCell_same (((wp12.setCell ⟨g0, 0, none⟩ (.int .i64 x.1)).setCell ⟨g0, 1, none⟩ (.int .i64 x.2.1))) g0 2 _ _ (.int .i64 y.2.2) p1
  simp only [sA, s0, s1] at p2
  have RF := h_ p2
  have CF := h_ ((((Chg.refl [g0] wp12).setCell (p := ⟨g0, 0, none⟩) (.inl (by simp)) (.int .i64 x.1)).setCell (p := ⟨g0, 1, none⟩) (.inl (by simp)) (.int .i64 x.2.1)).setCell (p := ⟨g0, 2, none⟩) (.inl (by simp)) (.int .i64 y.2.2))
  clear p0 p1 p2; go_wp2
  generalize (((wp12.setCell ⟨g0, 0, none⟩ (.int .i64 x.1)).setCell ⟨g0, 1, none⟩ (.int .i64 x.2.1)).setCell ⟨g0, 2, none⟩ (.int .i64 y.2.2)) = wf at *
  clear z0 z1 z2 fz0 fz1 fz2
  obtain ⟨z0, z1, z2⟩ := ce3 RF.out
  refine bodyPost_ret (v := .tuple #[.agg #[.int .i64 x.1, .int .i64 x.2.1, .int .i64 y.2.2], .bool true, .bool true]) (by simp [results, Tryz.results192, go_sem, z0, z1, z2]) rfl ?_
  exact ⟨rfl, ⟨_, _, _, _, H.out.chg CF.out NG2.out.1 NG2.out.2⟩, CG.out.trans' CF.out (fun z hz => by simp at hz; subst hz; exact .inr (Nat.le_of_eq hg0))⟩
end
end Go.Proofs.YtehmchdhlhchjaaGreatDoor
