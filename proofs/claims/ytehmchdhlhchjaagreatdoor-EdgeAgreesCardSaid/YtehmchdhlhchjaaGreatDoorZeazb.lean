/- EdgeKnown, by contracts. A message as an argument. Rows of messages; as arguments. Rows of bools; as arguments. -/
import Derived.Test.YtehmchdhlhchjaaGreatDoorZeaz
import Derived.Test.YtehmchdhlhchjaaGreatDoorZeaza
import Derived.Test.YtehmchdhlhchjaaGreatDoorZeag
import Derived.Test.YtehmchdhlhchjaaGreatDoorZeab
import Derived.Deep.Cut
import Derived.Deep.RegionHeld3
import Derived.Test.YtehmchdhlhchjaaGreatDoorZeaq
import Derived.Test.YtehmchdhlhchjaaGreatDoorZeaa
set_option linter.unusedSimpArgs false
set_option linter.unusedVariables false
namespace Go.Proofs.YtehmchdhlhchjaaGreatDoor
section
open Go.RowKit Go.Lib


theorem l20next (w : World) (gt pd : Nat) (A1 : Option Addr) (c1 : Nat) (RT : RdK evTy w (some ⟨gt, 0, none⟩) 2 [fT, gT]) (LT : gt < w.heap.size) (R1 : RdK spanTy w A1 0 []) (RD : RdK dotTy w (some ⟨pd, 0, none⟩) 1 [((1 : Int), (1 : Int))]) : Calls Tryz.prog 13 #[.slice (some ⟨gt, 0, none⟩) 2 2, .agg #[.int .i64 3, .slice A1 0 c1], .slice (some ⟨pd, 0, none⟩) 1 1] w fun r w' => ∃ (x : EvT), r = .returned (.tuple #[.agg #[.int .i64 x.n, .int .i64 x.s, .string x.p, .int .i64 x.k, .int .i64 x.m, .slice x.A x.l x.c, .slice x.B x.bl x.bc], .bool true]) ∧ EvR w' x fE ∧ Chg [] w w' := by
 have q := ednext_any w (some ⟨gt, 0, none⟩) 2 [fT, gT] [fE, gE] 3 A1 c1 [] RT (by simp) (.inr (fun a ha => by cases ha; exact LT)) (fgR w) (by simp) fg_sm R1 (by simp) (some ⟨pd, 0, none⟩) 1 [(1, 1)] RD (by simp)
 rw [k_next] at q
 exact q.mono (fun r w2 ⟨x, e, h1, h2, h3, h4, h5⟩ => ⟨x, h1, (by subst h3; exact h2), h5⟩)
theorem set7X {w w0 : World} {g : Nat} {a0 a1 a2 a3 a4 a5 a6 : Value} {T : TypeId} {x : EvT} (h : w.heap[g]? = some (.cells #[a0, a1, a2, a3, a4, a5, a6] T (0, 0))) (hc : Chg [] w0 w) (hg : w0.heap.size ≤ g) :
  ∃ w', (((((((w.setCell ⟨g, 0, none⟩ (.int .i64 x.n)).setCell ⟨g, 1, none⟩ (.int .i64 x.s)).setCell ⟨g, 2, none⟩ (.string x.p)).setCell ⟨g, 3, none⟩ (.int .i64 x.k)).setCell ⟨g, 4, none⟩ (.int .i64 x.m)).setCell ⟨g, 5, none⟩ (.slice x.A x.l x.c)).setCell ⟨g, 6, none⟩ (.slice x.B x.bl x.bc)) = w' ∧ w'.heap[g]? = some (.cells #[.int .i64 x.n, .int .i64 x.s, .string x.p, .int .i64 x.k, .int .i64 x.m, .slice x.A x.l x.c, .slice x.B x.bl x.bc] T (0, 0)) ∧ Chg [] w0 w' := by
 obtain ⟨p, c⟩ := set7W (.int .i64 x.n) (.int .i64 x.s) (.string x.p) (.int .i64 x.k) (.int .i64 x.m) (.slice x.A x.l x.c) (.slice x.B x.bl x.bc) h
 exact ⟨_, rfl, p, hc.trans' c (fun i hi => .inr (by simp at hi; rw [hi]; exact hg))⟩
theorem cells7 {w : World} {g : Nat} {a b c d e f i : Value} {T : TypeId} {q : Nat × Nat} (h : w.heap[g]? = some (.cells #[a, b, c, d, e, f, i] T q)) : w.cell? ⟨g, 0, none⟩ = some a ∧ w.cell? ⟨g, 1, none⟩ = some b ∧ w.cell? ⟨g, 2, none⟩ = some c ∧ w.cell? ⟨g, 3, none⟩ = some d ∧ w.cell? ⟨g, 4, none⟩ = some e ∧ w.cell? ⟨g, 5, none⟩ = some f ∧ w.cell? ⟨g, 6, none⟩ = some i := ⟨cell_of h 0, cell_of h 1, cell_of h 2, cell_of h 3, cell_of h 4, cell_of h 5, cell_of h 6⟩
theorem free7 {w : World} {g : Nat} {cs : Array Value} {T : TypeId} (h : w.heap[g]? = some (.cells cs T (0, 0))) : w.frozen? ⟨g, 0, none⟩ = false ∧ w.frozen? ⟨g, 1, none⟩ = false ∧ w.frozen? ⟨g, 2, none⟩ = false ∧ w.frozen? ⟨g, 3, none⟩ = false ∧ w.frozen? ⟨g, 4, none⟩ = false ∧ w.frozen? ⟨g, 5, none⟩ = false ∧ w.frozen? ⟨g, 6, none⟩ = false := ⟨free_of h 0, free_of h 1, free_of h 2, free_of h 3, free_of h 4, free_of h 5, free_of h 6⟩

theorem join5K {α β γ δ ε : Type} {F R : α → β → γ → δ → ε → Prop} {G : Prop} (h1 : (∀ a b c d e, F a b c d e → R a b c d e) → G) (h2 : ∀ a b c d e, F a b c d e → R a b c d e) : G := h1 h2
theorem lit_bs {w : World} {g : Nat} {xs : List UInt8} (h : w.heap[g]? = some (.cells (xs.map bv).toArray 5)) : Bs w (some ⟨g, 0, none⟩) xs.length xs :=
 ⟨rfl, fun j c hj => ⟨_, rfl, by rw [add_zero_lit, cell_of h j]; simp [hj]⟩⟩
theorem fE_any {w w' : World} {x : EvT} (h : EvR w x fE) : EvR w' x fE := by
 have hl : x.l = 0 := h.l
 have hb : x.bl = 0 := h.bl
 refine ⟨h.n, h.s, h.p, h.k, h.m, h.l, h.bl, ?_, ?_⟩
 ·
  rw [hl]; exact ⟨rfl, fun j v hj => by simp [fE] at hj⟩
 ·
  rw [hb]; exact RdK.nil _ _
set_option maxRecDepth 100000 in
set_option maxHeartbeats 32000000 in
theorem l20known_c (w : World) : Calls Tryz.prog 20 #[] w fun e w' => e = .returned (.bool true) ∧ Chg [] w w' := by

 have NW := ednew_any w 3
 rw [k_new3] at NW
 have NWH := h_ NW
 have D := h_ (Chg.refl [] w)
 clear NW
 go_enter Tryz.func20, Tryz.ntmps20
 go_wp2_with fail
 refine NWH.out.mono ?_
 rintro r w1 ⟨A1, c1, rfl, ho, hA, hc⟩
 clear NWH 
 obtain ⟨w2, hw, hcn, hb⟩ := news1 w1 (.cells #[.int .i64 3, .slice A1 0 c1] 25)
 have WN := h_ hw
 have HC := hc.trans hcn
 replace D := h_ (D.out.trans HC)
 have B1 := h_ hb
 have R1 : Hid (RdK spanTy w2 A1 0 []) := h_ (ho.chg hcn (by simp)).reads
 have P1 : Hid (0 ≤ c1 ∧ c1 ≤ maxLen) := h_ ho.cap
 have O1 : Hid (∀ a, A1 = some a → a.block < w2.heap.size) := h_ (fun a ha => Nat.lt_of_lt_of_le (ho.lt_ a ha) hcn.size)
 clear hw hcn hb ho hA hc HC
 go_upto_region 2 with fail
 rw [← WN.out]
 generalize w1.heap.size = g1 at *
 clear WN
 refine wp_region_held_drew (S := fun w' => Chg [] w2 w') (by kernel_rfl) (Chg.refl [] w2).drew (fun hHeld => ?_)
 have C := h_ hHeld
 obtain ⟨wc, hwc⟩ : ∃ q, w2.drew = q := ⟨_, rfl⟩
 rw [hwc] at C ⊢
 clear hwc hHeld
 have hHeld := C.out
 have HB1 : Hid (∀ w', Chg [] w2 w' → w'.cell? ⟨g1, 0, none⟩ = some (.int .i64 3) ∧ w'.cell? ⟨g1, 1, none⟩ = some (.slice A1 0 c1)) := h_ (fun w' hc => ⟨cell_of (hc.at_ B1.out (by simp)) 0, cell_of (hc.at_ B1.out (by simp)) 1⟩)
 refine' join5K (F := fun (gt pd pa : Nat) (x : EvT) (wc : World) => Hid (wc.heap[pa]? = some (.cells #[.int .i64 x.n, .int .i64 x.s, .string x.p, .int .i64 x.k, .int .i64 x.m, .slice x.A x.l x.c, .slice x.B x.bl x.bc] 40 (0, 0))) ∧ Hid (EvR wc x fE) ∧ Hid (Chg [] w2 wc)) (R := _) (fun JOIN => ?leaf) ?rest
 case leaf =>
  refine sy 1 26 rfl rfl ?_ (hy := by (intro w hSw; (try dsimp only at hSw); obtain ⟨q0, q1⟩ := HB1.out _ hSw; go_simp; try with_reducible rfl))
  try simp only [Act.put, sA, s0, s1]
  refine sy 2 27 rfl rfl ?_; try simp only [Act.put, sA, s0, s1]
  refine wpAnyH_ready (rs := [0, 3, 8]) (by kernel_rfl) (by simp) ?_
  refine AllReadyH.cons rfl (fun K hK => ?_) (AllReadyH.cons rfl (fun K hK => ?_) (AllReadyH.cons rfl (fun K hK => ?_) AllReadyH.nil))
  ·
   skip
   replace hK := h_ hK
   go_simp
   refine (l20two_any wc).mono ?_
   rintro r wc ⟨gt, rfl, hr, hl, hc⟩
   try replace RT := h_ (RT.out.chg hc (by simp))
   try replace LT := h_ (Nat.lt_of_lt_of_le LT.out hc.size)
   try replace RD := h_ (RD.out.chg hc (by simp))
   try replace BA := h_ (hc.at_ BA.out (by simp))
   try replace RX := h_ (fE_any (w' := wc) RX.out)
   have RT := h_ hr
   have LT := h_ hl
   replace C := h_ (C.out.trans hc)
   clear hr hl hc
   refine hK.out _ _ C.out (fun hHeld => ?_)
   clear hK K; try simp only [Act.put, sA, s0, s1]
   refine wpAnyH_ready (rs := [3, 8]) (by kernel_rfl) (by simp) ?_
   refine AllReadyH.cons rfl (fun K hK => ?_) (AllReadyH.cons rfl (fun K hK => ?_) AllReadyH.nil)
   ·
    skip
    replace hK := h_ hK
    go_simp
    obtain ⟨pd, hp⟩ : ∃ p, wc.heap.size = p := ⟨_, rfl⟩
    obtain ⟨wc, hw, hcn, hb⟩ := news1 wc (.cells #[.int .i64 1, .int .i64 1] 35)
    rw [← hw, hp]
    rw [hp] at hb
    try replace RT := h_ (RT.out.chg hcn (by simp))
    try replace LT := h_ (Nat.lt_of_lt_of_le LT.out hcn.size)
    try replace RD := h_ (RD.out.chg hcn (by simp))
    try replace BA := h_ (hcn.at_ BA.out (by simp))
    try replace RX := h_ (fE_any (w' := wc) RX.out)
    have RD : Hid (RdK dotTy wc (some ⟨pd, 0, none⟩) 1 [((1 : Int), (1 : Int))]) := h_ ⟨rfl, fun j v hj => ⟨_, rfl, by rw [add_zero_lit, cell_of hb j]; simpa [RowTy.flat, dotTy] using hj⟩⟩
    replace C := h_ (C.out.trans hcn)
    clear hw hcn hb hp
    refine hK.out _ _ C.out (fun hHeld => ?_)
    clear hK K; try simp only [Act.put, sA, s0, s1]
    refine wpAnyH_ready (rs := [4, 8]) (by kernel_rfl) (by simp) ?_
    refine AllReadyH.cons rfl (fun K hK => ?_) (AllReadyH.cons rfl (fun K hK => ?_) AllReadyH.nil)
    ·
     skip
     replace hK := h_ hK
     have NXH := h_ (l20next wc gt pd A1 c1 RT.out LT.out (R1.out.chg C.out (by simp)) RD.out)
     go_simp
     refine NXH.out.mono ?_
     rintro r wc ⟨x, rfl, hx, hc⟩
     try replace RT := h_ (RT.out.chg hc (by simp))
     try replace LT := h_ (Nat.lt_of_lt_of_le LT.out hc.size)
     try replace RD := h_ (RD.out.chg hc (by simp))
     try replace BA := h_ (hc.at_ BA.out (by simp))
     try replace RX := h_ (fE_any (w' := wc) RX.out)
     have RX := h_ hx
     replace C := h_ (C.out.trans hc)
     clear hx hc NXH
     refine hK.out _ _ C.out (fun hHeld => ?_)
     clear hK K; try simp only [Act.put, sA, s0, s1]
     refine sy 5 24 rfl rfl ?_; try simp only [Act.put, sA, s0, s1]
     refine sy 6 30 rfl rfl ?_; try simp only [Act.put, sA, s0, s1]
     refine sy 7 31 rfl rfl ?_; try simp only [Act.put, sA, s0, s1]
     refine on1 8 rfl (fun K hK => ?_)
     go_simp
     obtain ⟨pa, hp⟩ : ∃ p, wc.heap.size = p := ⟨_, rfl⟩
     obtain ⟨wc, hw, hcn, hb⟩ := news1 wc (.cells #[.int .i64 0, .int .i64 0, .string ⟨#[]⟩, .int .i64 0, .int .i64 0, .slice none 0 0, .slice none 0 0] 40)
     rw [← hw, hp]
     rw [hp] at hb
     try replace RT := h_ (RT.out.chg hcn (by simp))
     try replace LT := h_ (Nat.lt_of_lt_of_le LT.out hcn.size)
     try replace RD := h_ (RD.out.chg hcn (by simp))
     try replace BA := h_ (hcn.at_ BA.out (by simp))
     try replace RX := h_ (fE_any (w' := wc) RX.out)
     have BA := h_ hb
     have NP : Hid (w2.heap.size ≤ pa) := h_ (by have := C.out.size; omega)
     replace C := h_ (C.out.trans hcn)
     clear hw hcn hb hp
     refine hK.out _ _ C.out (fun hHeld => ?_)
     clear hK K; try simp only [Act.put, sA, s0, s1]
     refine on1 9 rfl (fun K hK => ?_)
     obtain ⟨t0, t1, t2, t3, t4, t5, t6⟩ := cells7 BA.out
     obtain ⟨f0, f1, f2, f3, f4, f5, f6⟩ := free7 BA.out
     go_simp; clear t0 t1 t2 t3 t4 t5 t6 f0 f1 f2 f3 f4 f5 f6
     obtain ⟨wd, hwd, q9, cw⟩ := set7X (x := x) BA.out C.out NP.out
     have BQ := h_ q9
     replace C := h_ cw
     rw [hwd]
     clear q9 cw hwd
     refine hK.out _ _ C.out (fun hHeld => ?_)
     clear hK K; try simp only [Act.put, sA, s0, s1]
     refine sy 10 4 rfl rfl ?_; try simp only [Act.put, sA, s0, s1]
     refine wpAnyH_done (by kernel_rfl) ?_ _; clear hHeld
     exact JOIN gt pd pa x wd ⟨BQ, h_ (fE_any RX.out), C⟩
    ·
     skip
     replace hK := h_ hK
     go_simp
     obtain ⟨pa, hp⟩ : ∃ p, wc.heap.size = p := ⟨_, rfl⟩
     obtain ⟨wc, hw, hcn, hb⟩ := news1 wc (.cells #[.int .i64 0, .int .i64 0, .string ⟨#[]⟩, .int .i64 0, .int .i64 0, .slice none 0 0, .slice none 0 0] 40)
     rw [← hw, hp]
     rw [hp] at hb
     try replace RT := h_ (RT.out.chg hcn (by simp))
     try replace LT := h_ (Nat.lt_of_lt_of_le LT.out hcn.size)
     try replace RD := h_ (RD.out.chg hcn (by simp))
     try replace BA := h_ (hcn.at_ BA.out (by simp))
     try replace RX := h_ (fE_any (w' := wc) RX.out)
     have BA := h_ hb
     have NP : Hid (w2.heap.size ≤ pa) := h_ (by have := C.out.size; omega)
     replace C := h_ (C.out.trans hcn)
     clear hw hcn hb hp
     refine hK.out _ _ C.out (fun hHeld => ?_)
     clear hK K; try simp only [Act.put, sA, s0, s1]
     refine on1 4 rfl (fun K hK => ?_)
     have NXH := h_ (l20next wc gt pd A1 c1 RT.out LT.out (R1.out.chg C.out (by simp)) RD.out)
     go_simp
     refine NXH.out.mono ?_
     rintro r wc ⟨x, rfl, hx, hc⟩
     try replace RT := h_ (RT.out.chg hc (by simp))
     try replace LT := h_ (Nat.lt_of_lt_of_le LT.out hc.size)
     try replace RD := h_ (RD.out.chg hc (by simp))
     try replace BA := h_ (hc.at_ BA.out (by simp))
     try replace RX := h_ (fE_any (w' := wc) RX.out)
     have RX := h_ hx
     replace C := h_ (C.out.trans hc)
     clear hx hc NXH
     refine hK.out _ _ C.out (fun hHeld => ?_)
     clear hK K; try simp only [Act.put, sA, s0, s1]
     refine sy 5 24 rfl rfl ?_; try simp only [Act.put, sA, s0, s1]
     refine sy 6 30 rfl rfl ?_; try simp only [Act.put, sA, s0, s1]
     refine sy 7 31 rfl rfl ?_; try simp only [Act.put, sA, s0, s1]
     refine on1 9 rfl (fun K hK => ?_)
     obtain ⟨t0, t1, t2, t3, t4, t5, t6⟩ := cells7 BA.out
     obtain ⟨f0, f1, f2, f3, f4, f5, f6⟩ := free7 BA.out
     go_simp; clear t0 t1 t2 t3 t4 t5 t6 f0 f1 f2 f3 f4 f5 f6
     obtain ⟨wd, hwd, q9, cw⟩ := set7X (x := x) BA.out C.out NP.out
     have BQ := h_ q9
     replace C := h_ cw
     rw [hwd]
     clear q9 cw hwd
     refine hK.out _ _ C.out (fun hHeld => ?_)
     clear hK K; try simp only [Act.put, sA, s0, s1]
     refine sy 10 4 rfl rfl ?_; try simp only [Act.put, sA, s0, s1]
     refine wpAnyH_done (by kernel_rfl) ?_ _; clear hHeld
     exact JOIN gt pd pa x wd ⟨BQ, h_ (fE_any RX.out), C⟩
   ·
    skip
    replace hK := h_ hK
    go_simp
    obtain ⟨pa, hp⟩ : ∃ p, wc.heap.size = p := ⟨_, rfl⟩
    obtain ⟨wc, hw, hcn, hb⟩ := news1 wc (.cells #[.int .i64 0, .int .i64 0, .string ⟨#[]⟩, .int .i64 0, .int .i64 0, .slice none 0 0, .slice none 0 0] 40)
    rw [← hw, hp]
    rw [hp] at hb
    try replace RT := h_ (RT.out.chg hcn (by simp))
    try replace LT := h_ (Nat.lt_of_lt_of_le LT.out hcn.size)
    try replace RD := h_ (RD.out.chg hcn (by simp))
    try replace BA := h_ (hcn.at_ BA.out (by simp))
    try replace RX := h_ (fE_any (w' := wc) RX.out)
    have BA := h_ hb
    have NP : Hid (w2.heap.size ≤ pa) := h_ (by have := C.out.size; omega)
    replace C := h_ (C.out.trans hcn)
    clear hw hcn hb hp
    refine hK.out _ _ C.out (fun hHeld => ?_)
    clear hK K; try simp only [Act.put, sA, s0, s1]
    refine on1 3 rfl (fun K hK => ?_)
    go_simp
    obtain ⟨pd, hp⟩ : ∃ p, wc.heap.size = p := ⟨_, rfl⟩
    obtain ⟨wc, hw, hcn, hb⟩ := news1 wc (.cells #[.int .i64 1, .int .i64 1] 35)
    rw [← hw, hp]
    rw [hp] at hb
    try replace RT := h_ (RT.out.chg hcn (by simp))
    try replace LT := h_ (Nat.lt_of_lt_of_le LT.out hcn.size)
    try replace RD := h_ (RD.out.chg hcn (by simp))
    try replace BA := h_ (hcn.at_ BA.out (by simp))
    try replace RX := h_ (fE_any (w' := wc) RX.out)
    have RD : Hid (RdK dotTy wc (some ⟨pd, 0, none⟩) 1 [((1 : Int), (1 : Int))]) := h_ ⟨rfl, fun j v hj => ⟨_, rfl, by rw [add_zero_lit, cell_of hb j]; simpa [RowTy.flat, dotTy] using hj⟩⟩
    replace C := h_ (C.out.trans hcn)
    clear hw hcn hb hp
    refine hK.out _ _ C.out (fun hHeld => ?_)
    clear hK K; try simp only [Act.put, sA, s0, s1]
    refine on1 4 rfl (fun K hK => ?_)
    have NXH := h_ (l20next wc gt pd A1 c1 RT.out LT.out (R1.out.chg C.out (by simp)) RD.out)
    go_simp
    refine NXH.out.mono ?_
    rintro r wc ⟨x, rfl, hx, hc⟩
    try replace RT := h_ (RT.out.chg hc (by simp))
    try replace LT := h_ (Nat.lt_of_lt_of_le LT.out hc.size)
    try replace RD := h_ (RD.out.chg hc (by simp))
    try replace BA := h_ (hc.at_ BA.out (by simp))
    try replace RX := h_ (fE_any (w' := wc) RX.out)
    have RX := h_ hx
    replace C := h_ (C.out.trans hc)
    clear hx hc NXH
    refine hK.out _ _ C.out (fun hHeld => ?_)
    clear hK K; try simp only [Act.put, sA, s0, s1]
    refine sy 5 24 rfl rfl ?_; try simp only [Act.put, sA, s0, s1]
    refine sy 6 30 rfl rfl ?_; try simp only [Act.put, sA, s0, s1]
    refine sy 7 31 rfl rfl ?_; try simp only [Act.put, sA, s0, s1]
    refine on1 9 rfl (fun K hK => ?_)
    obtain ⟨t0, t1, t2, t3, t4, t5, t6⟩ := cells7 BA.out
    obtain ⟨f0, f1, f2, f3, f4, f5, f6⟩ := free7 BA.out
    go_simp; clear t0 t1 t2 t3 t4 t5 t6 f0 f1 f2 f3 f4 f5 f6
    obtain ⟨wd, hwd, q9, cw⟩ := set7X (x := x) BA.out C.out NP.out
    have BQ := h_ q9
    replace C := h_ cw
    rw [hwd]
    clear q9 cw hwd
    refine hK.out _ _ C.out (fun hHeld => ?_)
    clear hK K; try simp only [Act.put, sA, s0, s1]
    refine sy 10 4 rfl rfl ?_; try simp only [Act.put, sA, s0, s1]
    refine wpAnyH_done (by kernel_rfl) ?_ _; clear hHeld
    exact JOIN gt pd pa x wd ⟨BQ, h_ (fE_any RX.out), C⟩
  ·
   skip
   replace hK := h_ hK
   go_simp
   obtain ⟨pd, hp⟩ : ∃ p, wc.heap.size = p := ⟨_, rfl⟩
   obtain ⟨wc, hw, hcn, hb⟩ := news1 wc (.cells #[.int .i64 1, .int .i64 1] 35)
   rw [← hw, hp]
   rw [hp] at hb
   try replace RT := h_ (RT.out.chg hcn (by simp))
   try replace LT := h_ (Nat.lt_of_lt_of_le LT.out hcn.size)
   try replace RD := h_ (RD.out.chg hcn (by simp))
   try replace BA := h_ (hcn.at_ BA.out (by simp))
   try replace RX := h_ (fE_any (w' := wc) RX.out)
   have RD : Hid (RdK dotTy wc (some ⟨pd, 0, none⟩) 1 [((1 : Int), (1 : Int))]) := h_ ⟨rfl, fun j v hj => ⟨_, rfl, by rw [add_zero_lit, cell_of hb j]; simpa [RowTy.flat, dotTy] using hj⟩⟩
   replace C := h_ (C.out.trans hcn)
   clear hw hcn hb hp
   refine hK.out _ _ C.out (fun hHeld => ?_)
   clear hK K; try simp only [Act.put, sA, s0, s1]
   refine wpAnyH_ready (rs := [0, 8]) (by kernel_rfl) (by simp) ?_
   refine AllReadyH.cons rfl (fun K hK => ?_) (AllReadyH.cons rfl (fun K hK => ?_) AllReadyH.nil)
   ·
    skip
    replace hK := h_ hK
    go_simp
    refine (l20two_any wc).mono ?_
    rintro r wc ⟨gt, rfl, hr, hl, hc⟩
    try replace RT := h_ (RT.out.chg hc (by simp))
    try replace LT := h_ (Nat.lt_of_lt_of_le LT.out hc.size)
    try replace RD := h_ (RD.out.chg hc (by simp))
    try replace BA := h_ (hc.at_ BA.out (by simp))
    try replace RX := h_ (fE_any (w' := wc) RX.out)
    have RT := h_ hr
    have LT := h_ hl
    replace C := h_ (C.out.trans hc)
    clear hr hl hc
    refine hK.out _ _ C.out (fun hHeld => ?_)
    clear hK K; try simp only [Act.put, sA, s0, s1]
    refine wpAnyH_ready (rs := [4, 8]) (by kernel_rfl) (by simp) ?_
    refine AllReadyH.cons rfl (fun K hK => ?_) (AllReadyH.cons rfl (fun K hK => ?_) AllReadyH.nil)
    ·
     skip
     replace hK := h_ hK
     have NXH := h_ (l20next wc gt pd A1 c1 RT.out LT.out (R1.out.chg C.out (by simp)) RD.out)
     go_simp
     refine NXH.out.mono ?_
     rintro r wc ⟨x, rfl, hx, hc⟩
     try replace RT := h_ (RT.out.chg hc (by simp))
     try replace LT := h_ (Nat.lt_of_lt_of_le LT.out hc.size)
     try replace RD := h_ (RD.out.chg hc (by simp))
     try replace BA := h_ (hc.at_ BA.out (by simp))
     try replace RX := h_ (fE_any (w' := wc) RX.out)
     have RX := h_ hx
     replace C := h_ (C.out.trans hc)
     clear hx hc NXH
     refine hK.out _ _ C.out (fun hHeld => ?_)
     clear hK K; try simp only [Act.put, sA, s0, s1]
     refine sy 5 24 rfl rfl ?_; try simp only [Act.put, sA, s0, s1]
     refine sy 6 30 rfl rfl ?_; try simp only [Act.put, sA, s0, s1]
     refine sy 7 31 rfl rfl ?_; try simp only [Act.put, sA, s0, s1]
     refine on1 8 rfl (fun K hK => ?_)
     go_simp
     obtain ⟨pa, hp⟩ : ∃ p, wc.heap.size = p := ⟨_, rfl⟩
     obtain ⟨wc, hw, hcn, hb⟩ := news1 wc (.cells #[.int .i64 0, .int .i64 0, .string ⟨#[]⟩, .int .i64 0, .int .i64 0, .slice none 0 0, .slice none 0 0] 40)
     rw [← hw, hp]
     rw [hp] at hb
     try replace RT := h_ (RT.out.chg hcn (by simp))
     try replace LT := h_ (Nat.lt_of_lt_of_le LT.out hcn.size)
     try replace RD := h_ (RD.out.chg hcn (by simp))
     try replace BA := h_ (hcn.at_ BA.out (by simp))
     try replace RX := h_ (fE_any (w' := wc) RX.out)
     have BA := h_ hb
     have NP : Hid (w2.heap.size ≤ pa) := h_ (by have := C.out.size; omega)
     replace C := h_ (C.out.trans hcn)
     clear hw hcn hb hp
     refine hK.out _ _ C.out (fun hHeld => ?_)
     clear hK K; try simp only [Act.put, sA, s0, s1]
     refine on1 9 rfl (fun K hK => ?_)
     obtain ⟨t0, t1, t2, t3, t4, t5, t6⟩ := cells7 BA.out
     obtain ⟨f0, f1, f2, f3, f4, f5, f6⟩ := free7 BA.out
     go_simp; clear t0 t1 t2 t3 t4 t5 t6 f0 f1 f2 f3 f4 f5 f6
     obtain ⟨wd, hwd, q9, cw⟩ := set7X (x := x) BA.out C.out NP.out
     have BQ := h_ q9
     replace C := h_ cw
     rw [hwd]
     clear q9 cw hwd
     refine hK.out _ _ C.out (fun hHeld => ?_)
     clear hK K; try simp only [Act.put, sA, s0, s1]
     refine sy 10 4 rfl rfl ?_; try simp only [Act.put, sA, s0, s1]
     refine wpAnyH_done (by kernel_rfl) ?_ _; clear hHeld
     exact JOIN gt pd pa x wd ⟨BQ, h_ (fE_any RX.out), C⟩
    ·
     skip
     replace hK := h_ hK
     go_simp
     obtain ⟨pa, hp⟩ : ∃ p, wc.heap.size = p := ⟨_, rfl⟩
     obtain ⟨wc, hw, hcn, hb⟩ := news1 wc (.cells #[.int .i64 0, .int .i64 0, .string ⟨#[]⟩, .int .i64 0, .int .i64 0, .slice none 0 0, .slice none 0 0] 40)
     rw [← hw, hp]
     rw [hp] at hb
     try replace RT := h_ (RT.out.chg hcn (by simp))
     try replace LT := h_ (Nat.lt_of_lt_of_le LT.out hcn.size)
     try replace RD := h_ (RD.out.chg hcn (by simp))
     try replace BA := h_ (hcn.at_ BA.out (by simp))
     try replace RX := h_ (fE_any (w' := wc) RX.out)
     have BA := h_ hb
     have NP : Hid (w2.heap.size ≤ pa) := h_ (by have := C.out.size; omega)
     replace C := h_ (C.out.trans hcn)
     clear hw hcn hb hp
     refine hK.out _ _ C.out (fun hHeld => ?_)
     clear hK K; try simp only [Act.put, sA, s0, s1]
     refine on1 4 rfl (fun K hK => ?_)
     have NXH := h_ (l20next wc gt pd A1 c1 RT.out LT.out (R1.out.chg C.out (by simp)) RD.out)
     go_simp
     refine NXH.out.mono ?_
     rintro r wc ⟨x, rfl, hx, hc⟩
     try replace RT := h_ (RT.out.chg hc (by simp))
     try replace LT := h_ (Nat.lt_of_lt_of_le LT.out hc.size)
     try replace RD := h_ (RD.out.chg hc (by simp))
     try replace BA := h_ (hc.at_ BA.out (by simp))
     try replace RX := h_ (fE_any (w' := wc) RX.out)
     have RX := h_ hx
     replace C := h_ (C.out.trans hc)
     clear hx hc NXH
     refine hK.out _ _ C.out (fun hHeld => ?_)
     clear hK K; try simp only [Act.put, sA, s0, s1]
     refine sy 5 24 rfl rfl ?_; try simp only [Act.put, sA, s0, s1]
     refine sy 6 30 rfl rfl ?_; try simp only [Act.put, sA, s0, s1]
     refine sy 7 31 rfl rfl ?_; try simp only [Act.put, sA, s0, s1]
     refine on1 9 rfl (fun K hK => ?_)
     obtain ⟨t0, t1, t2, t3, t4, t5, t6⟩ := cells7 BA.out
     obtain ⟨f0, f1, f2, f3, f4, f5, f6⟩ := free7 BA.out
     go_simp; clear t0 t1 t2 t3 t4 t5 t6 f0 f1 f2 f3 f4 f5 f6
     obtain ⟨wd, hwd, q9, cw⟩ := set7X (x := x) BA.out C.out NP.out
     have BQ := h_ q9
     replace C := h_ cw
     rw [hwd]
     clear q9 cw hwd
     refine hK.out _ _ C.out (fun hHeld => ?_)
     clear hK K; try simp only [Act.put, sA, s0, s1]
     refine sy 10 4 rfl rfl ?_; try simp only [Act.put, sA, s0, s1]
     refine wpAnyH_done (by kernel_rfl) ?_ _; clear hHeld
     exact JOIN gt pd pa x wd ⟨BQ, h_ (fE_any RX.out), C⟩
   ·
    skip
    replace hK := h_ hK
    go_simp
    obtain ⟨pa, hp⟩ : ∃ p, wc.heap.size = p := ⟨_, rfl⟩
    obtain ⟨wc, hw, hcn, hb⟩ := news1 wc (.cells #[.int .i64 0, .int .i64 0, .string ⟨#[]⟩, .int .i64 0, .int .i64 0, .slice none 0 0, .slice none 0 0] 40)
    rw [← hw, hp]
    rw [hp] at hb
    try replace RT := h_ (RT.out.chg hcn (by simp))
    try replace LT := h_ (Nat.lt_of_lt_of_le LT.out hcn.size)
    try replace RD := h_ (RD.out.chg hcn (by simp))
    try replace BA := h_ (hcn.at_ BA.out (by simp))
    try replace RX := h_ (fE_any (w' := wc) RX.out)
    have BA := h_ hb
    have NP : Hid (w2.heap.size ≤ pa) := h_ (by have := C.out.size; omega)
    replace C := h_ (C.out.trans hcn)
    clear hw hcn hb hp
    refine hK.out _ _ C.out (fun hHeld => ?_)
    clear hK K; try simp only [Act.put, sA, s0, s1]
    refine on1 0 rfl (fun K hK => ?_)
    go_simp
    refine (l20two_any wc).mono ?_
    rintro r wc ⟨gt, rfl, hr, hl, hc⟩
    try replace RT := h_ (RT.out.chg hc (by simp))
    try replace LT := h_ (Nat.lt_of_lt_of_le LT.out hc.size)
    try replace RD := h_ (RD.out.chg hc (by simp))
    try replace BA := h_ (hc.at_ BA.out (by simp))
    try replace RX := h_ (fE_any (w' := wc) RX.out)
    have RT := h_ hr
    have LT := h_ hl
    replace C := h_ (C.out.trans hc)
    clear hr hl hc
    refine hK.out _ _ C.out (fun hHeld => ?_)
    clear hK K; try simp only [Act.put, sA, s0, s1]
    refine on1 4 rfl (fun K hK => ?_)
    have NXH := h_ (l20next wc gt pd A1 c1 RT.out LT.out (R1.out.chg C.out (by simp)) RD.out)
    go_simp
    refine NXH.out.mono ?_
    rintro r wc ⟨x, rfl, hx, hc⟩
    try replace RT := h_ (RT.out.chg hc (by simp))
    try replace LT := h_ (Nat.lt_of_lt_of_le LT.out hc.size)
    try replace RD := h_ (RD.out.chg hc (by simp))
    try replace BA := h_ (hc.at_ BA.out (by simp))
    try replace RX := h_ (fE_any (w' := wc) RX.out)
    have RX := h_ hx
    replace C := h_ (C.out.trans hc)
    clear hx hc NXH
    refine hK.out _ _ C.out (fun hHeld => ?_)
    clear hK K; try simp only [Act.put, sA, s0, s1]
    refine sy 5 24 rfl rfl ?_; try simp only [Act.put, sA, s0, s1]
    refine sy 6 30 rfl rfl ?_; try simp only [Act.put, sA, s0, s1]
    refine sy 7 31 rfl rfl ?_; try simp only [Act.put, sA, s0, s1]
    refine on1 9 rfl (fun K hK => ?_)
    obtain ⟨t0, t1, t2, t3, t4, t5, t6⟩ := cells7 BA.out
    obtain ⟨f0, f1, f2, f3, f4, f5, f6⟩ := free7 BA.out
    go_simp; clear t0 t1 t2 t3 t4 t5 t6 f0 f1 f2 f3 f4 f5 f6
    obtain ⟨wd, hwd, q9, cw⟩ := set7X (x := x) BA.out C.out NP.out
    have BQ := h_ q9
    replace C := h_ cw
    rw [hwd]
    clear q9 cw hwd
    refine hK.out _ _ C.out (fun hHeld => ?_)
    clear hK K; try simp only [Act.put, sA, s0, s1]
    refine sy 10 4 rfl rfl ?_; try simp only [Act.put, sA, s0, s1]
    refine wpAnyH_done (by kernel_rfl) ?_ _; clear hHeld
    exact JOIN gt pd pa x wd ⟨BQ, h_ (fE_any RX.out), C⟩
  ·
   skip
   replace hK := h_ hK
   go_simp
   obtain ⟨pa, hp⟩ : ∃ p, wc.heap.size = p := ⟨_, rfl⟩
   obtain ⟨wc, hw, hcn, hb⟩ := news1 wc (.cells #[.int .i64 0, .int .i64 0, .string ⟨#[]⟩, .int .i64 0, .int .i64 0, .slice none 0 0, .slice none 0 0] 40)
   rw [← hw, hp]
   rw [hp] at hb
   try replace RT := h_ (RT.out.chg hcn (by simp))
   try replace LT := h_ (Nat.lt_of_lt_of_le LT.out hcn.size)
   try replace RD := h_ (RD.out.chg hcn (by simp))
   try replace BA := h_ (hcn.at_ BA.out (by simp))
   try replace RX := h_ (fE_any (w' := wc) RX.out)
   have BA := h_ hb
   have NP : Hid (w2.heap.size ≤ pa) := h_ (by have := C.out.size; omega)
   replace C := h_ (C.out.trans hcn)
   clear hw hcn hb hp
   refine hK.out _ _ C.out (fun hHeld => ?_)
   clear hK K; try simp only [Act.put, sA, s0, s1]
   refine wpAnyH_ready (rs := [0, 3]) (by kernel_rfl) (by simp) ?_
   refine AllReadyH.cons rfl (fun K hK => ?_) (AllReadyH.cons rfl (fun K hK => ?_) AllReadyH.nil)
   ·
    skip
    replace hK := h_ hK
    go_simp
    refine (l20two_any wc).mono ?_
    rintro r wc ⟨gt, rfl, hr, hl, hc⟩
    try replace RT := h_ (RT.out.chg hc (by simp))
    try replace LT := h_ (Nat.lt_of_lt_of_le LT.out hc.size)
    try replace RD := h_ (RD.out.chg hc (by simp))
    try replace BA := h_ (hc.at_ BA.out (by simp))
    try replace RX := h_ (fE_any (w' := wc) RX.out)
    have RT := h_ hr
    have LT := h_ hl
    replace C := h_ (C.out.trans hc)
    clear hr hl hc
    refine hK.out _ _ C.out (fun hHeld => ?_)
    clear hK K; try simp only [Act.put, sA, s0, s1]
    refine on1 3 rfl (fun K hK => ?_)
    go_simp
    obtain ⟨pd, hp⟩ : ∃ p, wc.heap.size = p := ⟨_, rfl⟩
    obtain ⟨wc, hw, hcn, hb⟩ := news1 wc (.cells #[.int .i64 1, .int .i64 1] 35)
    rw [← hw, hp]
    rw [hp] at hb
    try replace RT := h_ (RT.out.chg hcn (by simp))
    try replace LT := h_ (Nat.lt_of_lt_of_le LT.out hcn.size)
    try replace RD := h_ (RD.out.chg hcn (by simp))
    try replace BA := h_ (hcn.at_ BA.out (by simp))
    try replace RX := h_ (fE_any (w' := wc) RX.out)
    have RD : Hid (RdK dotTy wc (some ⟨pd, 0, none⟩) 1 [((1 : Int), (1 : Int))]) := h_ ⟨rfl, fun j v hj => ⟨_, rfl, by rw [add_zero_lit, cell_of hb j]; simpa [RowTy.flat, dotTy] using hj⟩⟩
    replace C := h_ (C.out.trans hcn)
    clear hw hcn hb hp
    refine hK.out _ _ C.out (fun hHeld => ?_)
    clear hK K; try simp only [Act.put, sA, s0, s1]
    refine on1 4 rfl (fun K hK => ?_)
    have NXH := h_ (l20next wc gt pd A1 c1 RT.out LT.out (R1.out.chg C.out (by simp)) RD.out)
    go_simp
    refine NXH.out.mono ?_
    rintro r wc ⟨x, rfl, hx, hc⟩
    try replace RT := h_ (RT.out.chg hc (by simp))
    try replace LT := h_ (Nat.lt_of_lt_of_le LT.out hc.size)
    try replace RD := h_ (RD.out.chg hc (by simp))
    try replace BA := h_ (hc.at_ BA.out (by simp))
    try replace RX := h_ (fE_any (w' := wc) RX.out)
    have RX := h_ hx
    replace C := h_ (C.out.trans hc)
    clear hx hc NXH
    refine hK.out _ _ C.out (fun hHeld => ?_)
    clear hK K; try simp only [Act.put, sA, s0, s1]
    refine sy 5 24 rfl rfl ?_; try simp only [Act.put, sA, s0, s1]
    refine sy 6 30 rfl rfl ?_; try simp only [Act.put, sA, s0, s1]
    refine sy 7 31 rfl rfl ?_; try simp only [Act.put, sA, s0, s1]
    refine on1 9 rfl (fun K hK => ?_)
    obtain ⟨t0, t1, t2, t3, t4, t5, t6⟩ := cells7 BA.out
    obtain ⟨f0, f1, f2, f3, f4, f5, f6⟩ := free7 BA.out
    go_simp; clear t0 t1 t2 t3 t4 t5 t6 f0 f1 f2 f3 f4 f5 f6
    obtain ⟨wd, hwd, q9, cw⟩ := set7X (x := x) BA.out C.out NP.out
    have BQ := h_ q9
    replace C := h_ cw
    rw [hwd]
    clear q9 cw hwd
    refine hK.out _ _ C.out (fun hHeld => ?_)
    clear hK K; try simp only [Act.put, sA, s0, s1]
    refine sy 10 4 rfl rfl ?_; try simp only [Act.put, sA, s0, s1]
    refine wpAnyH_done (by kernel_rfl) ?_ _; clear hHeld
    exact JOIN gt pd pa x wd ⟨BQ, h_ (fE_any RX.out), C⟩
   ·
    skip
    replace hK := h_ hK
    go_simp
    obtain ⟨pd, hp⟩ : ∃ p, wc.heap.size = p := ⟨_, rfl⟩
    obtain ⟨wc, hw, hcn, hb⟩ := news1 wc (.cells #[.int .i64 1, .int .i64 1] 35)
    rw [← hw, hp]
    rw [hp] at hb
    try replace RT := h_ (RT.out.chg hcn (by simp))
    try replace LT := h_ (Nat.lt_of_lt_of_le LT.out hcn.size)
    try replace RD := h_ (RD.out.chg hcn (by simp))
    try replace BA := h_ (hcn.at_ BA.out (by simp))
    try replace RX := h_ (fE_any (w' := wc) RX.out)
    have RD : Hid (RdK dotTy wc (some ⟨pd, 0, none⟩) 1 [((1 : Int), (1 : Int))]) := h_ ⟨rfl, fun j v hj => ⟨_, rfl, by rw [add_zero_lit, cell_of hb j]; simpa [RowTy.flat, dotTy] using hj⟩⟩
    replace C := h_ (C.out.trans hcn)
    clear hw hcn hb hp
    refine hK.out _ _ C.out (fun hHeld => ?_)
    clear hK K; try simp only [Act.put, sA, s0, s1]
    refine on1 0 rfl (fun K hK => ?_)
    go_simp
    refine (l20two_any wc).mono ?_
    rintro r wc ⟨gt, rfl, hr, hl, hc⟩
    try replace RT := h_ (RT.out.chg hc (by simp))
    try replace LT := h_ (Nat.lt_of_lt_of_le LT.out hc.size)
    try replace RD := h_ (RD.out.chg hc (by simp))
    try replace BA := h_ (hc.at_ BA.out (by simp))
    try replace RX := h_ (fE_any (w' := wc) RX.out)
    have RT := h_ hr
    have LT := h_ hl
    replace C := h_ (C.out.trans hc)
    clear hr hl hc
    refine hK.out _ _ C.out (fun hHeld => ?_)
    clear hK K; try simp only [Act.put, sA, s0, s1]
    refine on1 4 rfl (fun K hK => ?_)
    have NXH := h_ (l20next wc gt pd A1 c1 RT.out LT.out (R1.out.chg C.out (by simp)) RD.out)
    go_simp
    refine NXH.out.mono ?_
    rintro r wc ⟨x, rfl, hx, hc⟩
    try replace RT := h_ (RT.out.chg hc (by simp))
    try replace LT := h_ (Nat.lt_of_lt_of_le LT.out hc.size)
    try replace RD := h_ (RD.out.chg hc (by simp))
    try replace BA := h_ (hc.at_ BA.out (by simp))
    try replace RX := h_ (fE_any (w' := wc) RX.out)
    have RX := h_ hx
    replace C := h_ (C.out.trans hc)
    clear hx hc NXH
    refine hK.out _ _ C.out (fun hHeld => ?_)
    clear hK K; try simp only [Act.put, sA, s0, s1]
    refine sy 5 24 rfl rfl ?_; try simp only [Act.put, sA, s0, s1]
    refine sy 6 30 rfl rfl ?_; try simp only [Act.put, sA, s0, s1]
    refine sy 7 31 rfl rfl ?_; try simp only [Act.put, sA, s0, s1]
    refine on1 9 rfl (fun K hK => ?_)
    obtain ⟨t0, t1, t2, t3, t4, t5, t6⟩ := cells7 BA.out
    obtain ⟨f0, f1, f2, f3, f4, f5, f6⟩ := free7 BA.out
    go_simp; clear t0 t1 t2 t3 t4 t5 t6 f0 f1 f2 f3 f4 f5 f6
    obtain ⟨wd, hwd, q9, cw⟩ := set7X (x := x) BA.out C.out NP.out
    have BQ := h_ q9
    replace C := h_ cw
    rw [hwd]
    clear q9 cw hwd
    refine hK.out _ _ C.out (fun hHeld => ?_)
    clear hK K; try simp only [Act.put, sA, s0, s1]
    refine sy 10 4 rfl rfl ?_; try simp only [Act.put, sA, s0, s1]
    refine wpAnyH_done (by kernel_rfl) ?_ _; clear hHeld
    exact JOIN gt pd pa x wd ⟨BQ, h_ (fE_any RX.out), C⟩
 case rest =>
  intro gt pd pa x w3 FJ
  obtain ⟨BX, RX, CX⟩ := FJ
  have HX1 := CX.out
  replace D := h_ (D.out.trans HX1)
  replace B1 := h_ (HX1.at_ B1.out (by simp))
  replace R1 := h_ (R1.out.chg HX1 (by simp))
  replace O1 := h_ (fun a ha => Nat.lt_of_lt_of_le (O1.out a ha) HX1.size)
  clear CX HX1 HB1
  go_upto_region 3 with fail
  have NW := ednew_any w3 0
  rw [k_new0] at NW
  have NWH := h_ NW
  clear NW; go_wp2_with fail
  refine NWH.out.mono ?_
  rintro r w4 ⟨A5, c5, rfl, ho, hA, hc⟩
  clear NWH 
  obtain ⟨w5, hw, hcn, hb⟩ := news1 w4 (.cells #[.int .i64 0, .slice A5 0 c5] 25)
  have WN := h_ hw
  have HC := hc.trans hcn
  replace D := h_ (D.out.trans HC)
  replace B1 := h_ (HC.at_ B1.out (by simp))
  replace R1 := h_ (R1.out.chg HC (by simp))
  replace O1 := h_ (fun a ha => Nat.lt_of_lt_of_le (O1.out a ha) HC.size)
  replace BX := h_ (HC.at_ BX.out (by simp))
  replace RX := h_ (RX.out.chg HC)
  have B5 := h_ hb
  have R5 : Hid (RdK spanTy w5 A5 0 []) := h_ (ho.chg hcn (by simp)).reads
  have P5 : Hid (0 ≤ c5 ∧ c5 ≤ maxLen) := h_ ho.cap
  have O5 : Hid (∀ a, A5 = some a → a.block < w5.heap.size) := h_ (fun a ha => Nat.lt_of_lt_of_le (ho.lt_ a ha) hcn.size)
  clear hw hcn hb ho hA hc HC
  go_upto_region 4 with fail
  rw [← WN.out]
  generalize w4.heap.size = g5 at *
  clear WN
  obtain ⟨a0, a1⟩ := ce2 B1.out
  have LR := edlearn_any w5 3 A1 c1 [] 0 1 R1.out P1.out O1.out (by simp)
  rw [k_learn0] at LR
  have LRH := h_ LR
  clear LR; go_wp2_with fail
  refine LRH.out.mono ?_
  rintro r w6 ⟨A7, c7, rfl, ho, hA, hc⟩
  clear LRH a0 a1
  obtain ⟨w7, hw, hcn, hb⟩ := news1 w6 (.cells #[.int .i64 0, .slice A7 0 c7] 25)
  have WN := h_ hw
  have HC := hc.trans hcn
  replace D := h_ (D.out.trans HC)
  replace B1 := h_ (HC.at_ B1.out (by simp))
  replace R1 := h_ (R1.out.chg HC (by simp))
  replace O1 := h_ (fun a ha => Nat.lt_of_lt_of_le (O1.out a ha) HC.size)
  replace BX := h_ (HC.at_ BX.out (by simp))
  replace RX := h_ (RX.out.chg HC)
  replace B5 := h_ (HC.at_ B5.out (by simp))
  replace R5 := h_ (R5.out.chg HC (by simp))
  replace O5 := h_ (fun a ha => Nat.lt_of_lt_of_le (O5.out a ha) HC.size)
  have B7 := h_ hb
  have R7 : Hid (RdK spanTy w7 A7 0 []) := h_ (ho.chg hcn (by simp)).reads
  have P7 : Hid (0 ≤ c7 ∧ c7 ≤ maxLen) := h_ ho.cap
  have O7 : Hid (∀ a, A7 = some a → a.block < w7.heap.size) := h_ (fun a ha => Nat.lt_of_lt_of_le (ho.lt_ a ha) hcn.size)
  clear hw hcn hb ho hA hc HC
  go_upto_region 5 with fail
  rw [← WN.out]
  generalize w6.heap.size = g7 at *
  clear WN
  obtain ⟨a0, a1⟩ := ce2 B1.out
  obtain ⟨w8, hw, hcn, hb⟩ := news1 w7 (.cells #[.int .i64 1, .int .i64 1, .int .i64 1] 81)
  have WS := h_ hw
  have RS : Hid (RdK spanTy w8 (some ⟨w7.heap.size, 0, none⟩) 1 [((1 : Int), (1 : Int), (1 : Int))]) := h_ ⟨rfl, fun j v hj => ⟨_, rfl, by rw [add_zero_lit, cell_of hb j]; simpa [RowTy.flat, spanTy] using hj⟩⟩
  replace D := h_ (D.out.trans hcn)
  replace B1 := h_ (hcn.at_ B1.out (by simp))
  replace R1 := h_ (R1.out.chg hcn (by simp))
  replace O1 := h_ (fun a ha => Nat.lt_of_lt_of_le (O1.out a ha) hcn.size)
  replace BX := h_ (hcn.at_ BX.out (by simp))
  replace RX := h_ (RX.out.chg hcn)
  replace B5 := h_ (hcn.at_ B5.out (by simp))
  replace R5 := h_ (R5.out.chg hcn (by simp))
  replace O5 := h_ (fun a ha => Nat.lt_of_lt_of_le (O5.out a ha) hcn.size)
  replace B7 := h_ (hcn.at_ B7.out (by simp))
  replace R7 := h_ (R7.out.chg hcn (by simp))
  replace O7 := h_ (fun a ha => Nat.lt_of_lt_of_le (O7.out a ha) hcn.size)
  clear hw hcn hb
  have LR := edreset_any w8 3 A1 c1 [] 4 (some ⟨w7.heap.size, 0, none⟩) 1 [(1, 1, 1)] R1.out (by simp) RS.out (by simp)
  rw [k_reset] at LR
  have LRH := h_ LR
  clear LR; go_wp2_with fail
  rw [← WS.out]
  refine LRH.out.mono ?_
  rintro r w9 ⟨A9, c9, rfl, ho, hA, hc⟩
  clear LRH a0 a1 RS WS
  obtain ⟨w10, hw, hcn, hb⟩ := news1 w9 (.cells #[.int .i64 4, .slice A9 1 c9] 25)
  have WN := h_ hw
  have HC := hc.trans hcn
  replace D := h_ (D.out.trans HC)
  replace B1 := h_ (HC.at_ B1.out (by simp))
  replace R1 := h_ (R1.out.chg HC (by simp))
  replace O1 := h_ (fun a ha => Nat.lt_of_lt_of_le (O1.out a ha) HC.size)
  replace BX := h_ (HC.at_ BX.out (by simp))
  replace RX := h_ (RX.out.chg HC)
  replace B5 := h_ (HC.at_ B5.out (by simp))
  replace R5 := h_ (R5.out.chg HC (by simp))
  replace O5 := h_ (fun a ha => Nat.lt_of_lt_of_le (O5.out a ha) HC.size)
  replace B7 := h_ (HC.at_ B7.out (by simp))
  replace R7 := h_ (R7.out.chg HC (by simp))
  replace O7 := h_ (fun a ha => Nat.lt_of_lt_of_le (O7.out a ha) HC.size)
  have B9 := h_ hb
  have R9 : Hid (RdK spanTy w10 A9 1 [(1, 1, 1)]) := h_ (ho.chg hcn (by simp)).reads
  have P9 : Hid (1 ≤ c9 ∧ c9 ≤ maxLen) := h_ ho.cap
  have O9 : Hid (∀ a, A9 = some a → a.block < w10.heap.size) := h_ (fun a ha => Nat.lt_of_lt_of_le (ho.lt_ a ha) hcn.size)
  clear hw hcn hb ho hA hc HC
  go_upto_region 6 with fail
  rw [← WN.out]
  generalize w9.heap.size = g9 at *
  clear WN
  obtain ⟨a0, a1⟩ := ce2 B1.out
  have BY := edbytes_any w10 3 A1 c1 [] R1.out (by simp)
  rw [k_bytes] at BY
  have BYH := h_ BY
  clear BY; go_wp2_with fail
  refine BYH.out.mono ?_
  rintro r w11 ⟨Ab, cb, rfl, ho, hA, hc⟩
  clear BYH a0 a1
  replace D := h_ (D.out.trans hc)
  replace B1 := h_ (hc.at_ B1.out (by simp))
  replace R1 := h_ (R1.out.chg hc (by simp))
  replace O1 := h_ (fun a ha => Nat.lt_of_lt_of_le (O1.out a ha) hc.size)
  replace BX := h_ (hc.at_ BX.out (by simp))
  replace RX := h_ (RX.out.chg hc)
  replace B5 := h_ (hc.at_ B5.out (by simp))
  replace R5 := h_ (R5.out.chg hc (by simp))
  replace O5 := h_ (fun a ha => Nat.lt_of_lt_of_le (O5.out a ha) hc.size)
  replace B7 := h_ (hc.at_ B7.out (by simp))
  replace R7 := h_ (R7.out.chg hc (by simp))
  replace O7 := h_ (fun a ha => Nat.lt_of_lt_of_le (O7.out a ha) hc.size)
  replace B9 := h_ (hc.at_ B9.out (by simp))
  replace R9 := h_ (R9.out.chg hc (by simp))
  replace O9 := h_ (fun a ha => Nat.lt_of_lt_of_le (O9.out a ha) hc.size)
  have HBB := h_ ho.reads
  clear ho hA hc
  obtain ⟨w12, hw, hcn, hb⟩ := news1 w11 (.cells #[.int .u8 1, .int .u8 3, .int .u8 1, .int .u8 2, .int .u8 0, .int .u8 0] 5)
  have WS := h_ hw
  have RS : Hid (Bs w12 (some ⟨w11.heap.size, 0, none⟩) 6 [1, 3, 1, 2, 0, 0]) := h_ (lit_bs (xs := [1, 3, 1, 2, 0, 0]) hb)
  replace D := h_ (D.out.trans hcn)
  replace B1 := h_ (hcn.at_ B1.out (by simp))
  replace R1 := h_ (R1.out.chg hcn (by simp))
  replace O1 := h_ (fun a ha => Nat.lt_of_lt_of_le (O1.out a ha) hcn.size)
  replace BX := h_ (hcn.at_ BX.out (by simp))
  replace RX := h_ (RX.out.chg hcn)
  replace B5 := h_ (hcn.at_ B5.out (by simp))
  replace R5 := h_ (R5.out.chg hcn (by simp))
  replace O5 := h_ (fun a ha => Nat.lt_of_lt_of_le (O5.out a ha) hcn.size)
  replace B7 := h_ (hcn.at_ B7.out (by simp))
  replace R7 := h_ (R7.out.chg hcn (by simp))
  replace O7 := h_ (fun a ha => Nat.lt_of_lt_of_le (O7.out a ha) hcn.size)
  replace B9 := h_ (hcn.at_ B9.out (by simp))
  replace R9 := h_ (R9.out.chg hcn (by simp))
  replace O9 := h_ (fun a ha => Nat.lt_of_lt_of_le (O9.out a ha) hcn.size)
  replace HBB := h_ (HBB.out.chg hcn (by simp))
  clear hw hcn hb
  have LR := edread_any w12 (some ⟨w11.heap.size, 0, none⟩) 6 6 [1, 3, 1, 2, 0, 0] RS.out (by simp)
  rw [k_read6] at LR
  have LRH := h_ LR
  clear LR; go_wp2_with fail
  rw [← WS.out]
  refine LRH.out.mono ?_
  rintro r w13 ⟨A13, c13, rfl, ho, hA, hc⟩
  clear LRH RS WS
  obtain ⟨w14, hw, hcn, hb, hb2⟩ := news2 w13 (.cells #[.int .i64 3, .slice A13 0 c13] 25) (.cells #[.int .i64 0, .int .i64 0] 85)
  have WN := h_ hw
  have HC := hc.trans hcn
  replace D := h_ (D.out.trans HC)
  replace B1 := h_ (HC.at_ B1.out (by simp))
  replace R1 := h_ (R1.out.chg HC (by simp))
  replace O1 := h_ (fun a ha => Nat.lt_of_lt_of_le (O1.out a ha) HC.size)
  replace BX := h_ (HC.at_ BX.out (by simp))
  replace RX := h_ (RX.out.chg HC)
  replace B5 := h_ (HC.at_ B5.out (by simp))
  replace R5 := h_ (R5.out.chg HC (by simp))
  replace O5 := h_ (fun a ha => Nat.lt_of_lt_of_le (O5.out a ha) HC.size)
  replace B7 := h_ (HC.at_ B7.out (by simp))
  replace R7 := h_ (R7.out.chg HC (by simp))
  replace O7 := h_ (fun a ha => Nat.lt_of_lt_of_le (O7.out a ha) HC.size)
  replace B9 := h_ (HC.at_ B9.out (by simp))
  replace R9 := h_ (R9.out.chg HC (by simp))
  replace O9 := h_ (fun a ha => Nat.lt_of_lt_of_le (O9.out a ha) HC.size)
  replace HBB := h_ (HBB.out.chg HC (by simp))
  have B13 := h_ hb
  have FB13 := h_ hb2
  have R13 : Hid (RdK spanTy w14 A13 0 []) := h_ (ho.chg hcn (by simp)).reads
  clear hw hcn hb hb2 ho hA hc HC
  go_upto_region 8 with fail
  rw [← WN.out]
  generalize w13.heap.size + 1 = f13 at *
  generalize w13.heap.size = g13 at *
  clear WN
  have LR := edread_any w14 none 0 0 [] ⟨rfl, fun j v hj => by simp at hj⟩ (by simp)
  rw [k_read0] at LR
  have LRH := h_ LR
  clear LR; go_wp2_with fail
  refine LRH.out.mono ?_
  rintro r w15 ⟨A15, c15, rfl, ho, hA, hc⟩
  clear LRH
  obtain ⟨w16, hw, hcn, hb, hb2⟩ := news2 w15 (.cells #[.int .i64 0, .slice A15 0 c15] 25) (.cells #[.int .i64 4, .int .i64 0] 85)
  have WN := h_ hw
  have HC := hc.trans hcn
  replace D := h_ (D.out.trans HC)
  replace B1 := h_ (HC.at_ B1.out (by simp))
  replace R1 := h_ (R1.out.chg HC (by simp))
  replace O1 := h_ (fun a ha => Nat.lt_of_lt_of_le (O1.out a ha) HC.size)
  replace BX := h_ (HC.at_ BX.out (by simp))
  replace RX := h_ (RX.out.chg HC)
  replace B5 := h_ (HC.at_ B5.out (by simp))
  replace R5 := h_ (R5.out.chg HC (by simp))
  replace O5 := h_ (fun a ha => Nat.lt_of_lt_of_le (O5.out a ha) HC.size)
  replace B7 := h_ (HC.at_ B7.out (by simp))
  replace R7 := h_ (R7.out.chg HC (by simp))
  replace O7 := h_ (fun a ha => Nat.lt_of_lt_of_le (O7.out a ha) HC.size)
  replace B9 := h_ (HC.at_ B9.out (by simp))
  replace R9 := h_ (R9.out.chg HC (by simp))
  replace O9 := h_ (fun a ha => Nat.lt_of_lt_of_le (O9.out a ha) HC.size)
  replace HBB := h_ (HBB.out.chg HC (by simp))
  replace B13 := h_ (HC.at_ B13.out (by simp))
  replace FB13 := h_ (HC.at_ FB13.out (by simp))
  replace R13 := h_ (R13.out.chg HC (by simp))
  have B15 := h_ hb
  have FB15 := h_ hb2
  have R15 : Hid (RdK spanTy w16 A15 0 []) := h_ (ho.chg hcn (by simp)).reads
  clear hw hcn hb hb2 ho hA hc HC
  go_upto_region 9 with fail
  rw [← WN.out]
  generalize w15.heap.size + 1 = f15 at *
  generalize w15.heap.size = g15 at *
  clear WN
  obtain ⟨w17, hw, hcn, hb⟩ := news1 w16 (.cells #[.int .u8 1, .int .u8 3, .int .u8 0] 5)
  have WS := h_ hw
  have RS : Hid (Bs w17 (some ⟨w16.heap.size, 0, none⟩) 3 [1, 3, 0]) := h_ (lit_bs (xs := [1, 3, 0]) hb)
  replace D := h_ (D.out.trans hcn)
  replace B1 := h_ (hcn.at_ B1.out (by simp))
  replace R1 := h_ (R1.out.chg hcn (by simp))
  replace O1 := h_ (fun a ha => Nat.lt_of_lt_of_le (O1.out a ha) hcn.size)
  replace BX := h_ (hcn.at_ BX.out (by simp))
  replace RX := h_ (RX.out.chg hcn)
  replace B5 := h_ (hcn.at_ B5.out (by simp))
  replace R5 := h_ (R5.out.chg hcn (by simp))
  replace O5 := h_ (fun a ha => Nat.lt_of_lt_of_le (O5.out a ha) hcn.size)
  replace B7 := h_ (hcn.at_ B7.out (by simp))
  replace R7 := h_ (R7.out.chg hcn (by simp))
  replace O7 := h_ (fun a ha => Nat.lt_of_lt_of_le (O7.out a ha) hcn.size)
  replace B9 := h_ (hcn.at_ B9.out (by simp))
  replace R9 := h_ (R9.out.chg hcn (by simp))
  replace O9 := h_ (fun a ha => Nat.lt_of_lt_of_le (O9.out a ha) hcn.size)
  replace HBB := h_ (HBB.out.chg hcn (by simp))
  replace B13 := h_ (hcn.at_ B13.out (by simp))
  replace FB13 := h_ (hcn.at_ FB13.out (by simp))
  replace R13 := h_ (R13.out.chg hcn (by simp))
  replace B15 := h_ (hcn.at_ B15.out (by simp))
  replace FB15 := h_ (hcn.at_ FB15.out (by simp))
  replace R15 := h_ (R15.out.chg hcn (by simp))
  clear hw hcn hb
  have LR := edread_any w17 (some ⟨w16.heap.size, 0, none⟩) 3 3 [1, 3, 0] RS.out (by simp)
  rw [k_read3] at LR
  have LRH := h_ LR
  clear LR; go_wp2_with fail
  rw [← WS.out]
  refine LRH.out.mono ?_
  rintro r w18 ⟨A17, c17, rfl, ho, hA, hc⟩
  clear LRH RS WS
  obtain ⟨w19, hw, hcn, hb, hb2⟩ := news2 w18 (.cells #[.int .i64 0, .slice A17 0 c17] 25) (.cells #[.int .i64 2, .int .i64 0] 85)
  have WN := h_ hw
  have HC := hc.trans hcn
  replace D := h_ (D.out.trans HC)
  replace B1 := h_ (HC.at_ B1.out (by simp))
  replace R1 := h_ (R1.out.chg HC (by simp))
  replace O1 := h_ (fun a ha => Nat.lt_of_lt_of_le (O1.out a ha) HC.size)
  replace BX := h_ (HC.at_ BX.out (by simp))
  replace RX := h_ (RX.out.chg HC)
  replace B5 := h_ (HC.at_ B5.out (by simp))
  replace R5 := h_ (R5.out.chg HC (by simp))
  replace O5 := h_ (fun a ha => Nat.lt_of_lt_of_le (O5.out a ha) HC.size)
  replace B7 := h_ (HC.at_ B7.out (by simp))
  replace R7 := h_ (R7.out.chg HC (by simp))
  replace O7 := h_ (fun a ha => Nat.lt_of_lt_of_le (O7.out a ha) HC.size)
  replace B9 := h_ (HC.at_ B9.out (by simp))
  replace R9 := h_ (R9.out.chg HC (by simp))
  replace O9 := h_ (fun a ha => Nat.lt_of_lt_of_le (O9.out a ha) HC.size)
  replace HBB := h_ (HBB.out.chg HC (by simp))
  replace B13 := h_ (HC.at_ B13.out (by simp))
  replace FB13 := h_ (HC.at_ FB13.out (by simp))
  replace R13 := h_ (R13.out.chg HC (by simp))
  replace B15 := h_ (HC.at_ B15.out (by simp))
  replace FB15 := h_ (HC.at_ FB15.out (by simp))
  replace R15 := h_ (R15.out.chg HC (by simp))
  have B17 := h_ hb
  have FB17 := h_ hb2
  have R17 : Hid (RdK spanTy w19 A17 0 []) := h_ (ho.chg hcn (by simp)).reads
  clear hw hcn hb hb2 ho hA hc HC
  go_upto_region 10 with fail
  rw [← WN.out]
  generalize w18.heap.size + 1 = f17 at *
  generalize w18.heap.size = g17 at *
  clear WN
  refine wp_region_held_drew (S := fun w' => Chg [] w19 w') (by kernel_rfl) (Chg.refl [] w19).drew (fun hHeld => ?_)
  have C := h_ hHeld
  obtain ⟨wc, hwc⟩ : ∃ q, w19.drew = q := ⟨_, rfl⟩
  rw [hwc] at C ⊢
  clear hwc hHeld
  have hHeld := C.out
  have HBX : Hid (∀ w', Chg [] w19 w' → w'.cell? ⟨pa, 0, none⟩ = some (.int .i64 x.n) ∧ w'.cell? ⟨pa, 1, none⟩ = some (.int .i64 x.s) ∧ w'.cell? ⟨pa, 2, none⟩ = some (.string x.p) ∧ w'.cell? ⟨pa, 3, none⟩ = some (.int .i64 x.k) ∧ w'.cell? ⟨pa, 4, none⟩ = some (.int .i64 x.m) ∧ w'.cell? ⟨pa, 5, none⟩ = some (.slice x.A x.l x.c) ∧ w'.cell? ⟨pa, 6, none⟩ = some (.slice x.B x.bl x.bc)) := h_ (fun w' hc => by
   have q := hc.at_ BX.out (by simp)
   exact ⟨cell_of q 0, cell_of q 1, cell_of q 2, cell_of q 3, cell_of q 4, cell_of q 5, cell_of q 6⟩)
  have F9 : Hid (∀ w', Chg [] w19 w' → (w'.cell? ⟨g9, 0, none⟩ = some (.int .i64 4) ∧ w'.cell? ⟨g9, 1, none⟩ = some (.slice A9 1 c9)) ∧ RdK spanTy w' A9 1 [(1, 1, 1)]) := h_ (fun w' hc => ⟨⟨cell_of (hc.at_ B9.out (by simp)) 0, cell_of (hc.at_ B9.out (by simp)) 1⟩, R9.out.chg hc (by simp)⟩)
  refine sy 0 68 rfl rfl ?_; try simp only [Act.put, sA, s0, s1]
  refine sy 1 69 rfl rfl ?_; try simp only [Act.put, sA, s0, s1]
  refine sy 2 70 rfl rfl ?_; try simp only [Act.put, sA, s0, s1]
  refine sy 3 71 rfl rfl ?_; try simp only [Act.put, sA, s0, s1]
  refine sy 4 72 rfl rfl ?_; try simp only [Act.put, sA, s0, s1]
  refine sy 5 73 rfl rfl ?_; try simp only [Act.put, sA, s0, s1]
  refine sy 6 74 rfl rfl ?_ (hy := by (intro w hSw; (try dsimp only at hSw); obtain ⟨q0, q1, q2, q3, q4, q5, q6⟩ := HBX.out _ hSw; go_simp; try with_reducible rfl))
  try simp only [Act.put, sA, s0, s1]
  refine on1 7 rfl (fun K hK => ?_)
  go_simp
  refine (l20one_any wc 2 ⟨#[102]⟩).mono ?_
  rintro r wc ⟨rfl, hc⟩
  try replace RZ := h_ (RZ.out.chg hc (by simp))
  try replace EZ := h_ (EZ.out.chg hc)
  replace C := h_ (C.out.trans hc)
  clear hc
  refine hK.out _ _ C.out (fun hHeld => ?_)
  clear hK K; try simp only [Act.put, sA, s0, s1]
  refine on1 8 rfl (fun K hK => ?_)
  have SV := sameev_any wc x fT fE fE (RX.out.chg C.out) (fR wc) (by simp [fE])
  rw [show sameP fE fE = true from sameP_refl fE] at SV
  have SVH := h_ SV
  clear SV; go_simp
  refine SVH.out.mono ?_
  rintro r wc ⟨rfl, hc⟩
  replace C := h_ (C.out.trans hc)
  clear hc SVH
  refine hK.out _ _ C.out (fun hHeld => ?_)
  clear hK K; try simp only [Act.put, sA, s0, s1]
  refine sy 9 77 rfl rfl ?_; try simp only [Act.put, sA, s0, s1]
  refine sy 10 78 rfl rfl ?_; try simp only [Act.put, sA, s0, s1]
  refine sy 11 79 rfl rfl ?_; try simp only [Act.put, sA, s0, s1]
  refine sy 12 80 rfl rfl ?_; try simp only [Act.put, sA, s0, s1]
  refine sy 13 81 rfl rfl ?_; try simp only [Act.put, sA, s0, s1]
  refine sy 14 82 rfl rfl ?_; try simp only [Act.put, sA, s0, s1]
  refine sy 15 83 rfl rfl ?_; try simp only [Act.put, sA, s0, s1]
  refine sy 16 84 rfl rfl ?_; try simp only [Act.put, sA, s0, s1]
  refine sy 17 85 rfl rfl ?_; try simp only [Act.put, sA, s0, s1]
  refine sy 18 86 rfl rfl ?_; try simp only [Act.put, sA, s0, s1]
  refine sy 19 87 rfl rfl ?_; try simp only [Act.put, sA, s0, s1]
  refine sy 20 88 rfl rfl ?_; try simp only [Act.put, sA, s0, s1]
  refine sy 21 89 rfl rfl ?_; try simp only [Act.put, sA, s0, s1]
  refine sy 22 90 rfl rfl ?_; try simp only [Act.put, sA, s0, s1]
  refine sy 24 92 rfl rfl ?_ (hy := by (intro w hSw; (try dsimp only at hSw); obtain ⟨⟨q0, q1⟩, -⟩ := F9.out _ hSw; go_simp; try with_reducible rfl))
  try simp only [Act.put, sA, s0, s1]
  refine on1 23 rfl (fun K hK => ?_)
  go_simp
  refine (l20two_any wc).mono ?_
  rintro r wc ⟨gt, rfl, hr, hl, hc⟩
  have RT := h_ hr
  have LT := h_ hl
  replace C := h_ (C.out.trans hc)
  clear hr hl hc
  refine hK.out _ _ C.out (fun hHeld => ?_)
  clear hK K; try simp only [Act.put, sA, s0, s1]
  refine on1 25 rfl (fun K hK => ?_)
  have PL : Calls Tryz.prog 9 #[.slice (some ⟨gt, 0, none⟩) 2 2, .agg #[.int .i64 4, .slice A9 1 c9]] wc fun r w' => ∃ (A' : Option Addr) (c' : Nat) (zs : List EvT), r = .returned (.slice A' zs.length c') ∧ EsF w' wc.heap.size w'.heap.size A' c' zs [fE] ∧ Chg [] wc w' := by
   have q := edplan_any wc (some ⟨gt, 0, none⟩) 2 [fT, gT] [fE, gE] 4 A9 c9 [(1, 1, 1)] RT.out (by simp) (.inr (fun a ha => by cases ha; exact LT.out)) (fgR wc) (by simp) fg_sm (F9.out wc C.out).2 (by simp)
   rw [k_plan4] at q
   exact q
  have PLH := h_ PL
  clear PL; go_simp
  refine PLH.out.mono ?_
  rintro r wc ⟨Az, cz, zs, rfl, he, hc⟩
  have RZ := h_ he.row.reads
  have EZ := h_ he.all.ev
  replace C := h_ (C.out.trans hc)
  clear he hc PLH RT LT
  refine hK.out _ _ C.out (fun hHeld => ?_)
  clear hK K; try simp only [Act.put, sA, s0, s1]
  refine on1 26 rfl (fun K hK => ?_)
  go_simp
  refine (l20one_any wc 2 ⟨#[102]⟩).mono ?_
  rintro r wc ⟨rfl, hc⟩
  try replace RZ := h_ (RZ.out.chg hc (by simp))
  try replace EZ := h_ (EZ.out.chg hc)
  replace C := h_ (C.out.trans hc)
  clear hc
  refine hK.out _ _ C.out (fun hHeld => ?_)
  clear hK K; try simp only [Act.put, sA, s0, s1]
  refine on1 27 rfl (fun K hK => ?_)
  go_simp
  obtain ⟨px, hp⟩ : ∃ p, wc.heap.size = p := ⟨_, rfl⟩
  obtain ⟨wc, hw, hcn, hb⟩ := news1 wc (.cells #[.int .i64 2, .int .i64 1, .string ⟨#[102]⟩, .int .i64 1, .int .i64 0, .slice none 0 0, .slice none 0 0] 40)
  rw [← hw, hp]
  rw [hp] at hb
  have RX : Hid (RdK evTy wc (some ⟨px, 0, none⟩) 1 [fT]) := h_ (rd_oneEc (X := fT) hb)
  replace RZ := h_ (RZ.out.chg hcn (by simp))
  replace EZ := h_ (EZ.out.chg hcn)
  replace C := h_ (C.out.trans hcn)
  clear hw hcn hb hp
  refine hK.out _ _ C.out (fun hHeld => ?_)
  clear hK K; try simp only [Act.put, sA, s0, s1]
  refine on1 28 rfl (fun K hK => ?_)
  have SI := h_ (l20is_any wc Az (some ⟨px, 0, none⟩) cz 1 zs.length 1 zs [fT] [fE] RZ.out RX.out EZ.out (fsR wc) (by have a := EZ.out.1; simp at a; omega) (fun e he => by have := (fg_sm e (by simp at he ⊢; first | exact he | exact he.symm | exact .inl he)).2; omega))
  go_simp
  refine SI.out.mono ?_
  rintro r wc ⟨rfl, hc⟩
  replace C := h_ (C.out.trans hc)
  clear hc SI RZ EZ RX
  refine hK.out _ _ C.out (fun hHeld => ?_)
  clear hK K; try simp only [Act.put, sA, s0, s1]
  refine sy 29 97 rfl rfl ?_; try simp only [Act.put, sA, s0, s1]
  refine sy 30 19 rfl rfl ?_; try simp only [Act.put, sA, s0, s1]
  refine wpAnyH_done (by kernel_rfl) ?_ _
  have CQ := C.out
  clear hHeld HBX F9
  replace D := h_ (D.out.trans CQ)
  replace B1 := h_ (CQ.at_ B1.out (by simp))
  replace R1 := h_ (R1.out.chg CQ (by simp))
  replace O1 := h_ (fun a ha => Nat.lt_of_lt_of_le (O1.out a ha) CQ.size)
  replace BX := h_ (CQ.at_ BX.out (by simp))
  replace RX := h_ (RX.out.chg CQ)
  replace B5 := h_ (CQ.at_ B5.out (by simp))
  replace R5 := h_ (R5.out.chg CQ (by simp))
  replace O5 := h_ (fun a ha => Nat.lt_of_lt_of_le (O5.out a ha) CQ.size)
  replace B7 := h_ (CQ.at_ B7.out (by simp))
  replace R7 := h_ (R7.out.chg CQ (by simp))
  replace O7 := h_ (fun a ha => Nat.lt_of_lt_of_le (O7.out a ha) CQ.size)
  replace B9 := h_ (CQ.at_ B9.out (by simp))
  replace R9 := h_ (R9.out.chg CQ (by simp))
  replace O9 := h_ (fun a ha => Nat.lt_of_lt_of_le (O9.out a ha) CQ.size)
  replace HBB := h_ (HBB.out.chg CQ (by simp))
  replace B13 := h_ (CQ.at_ B13.out (by simp))
  replace FB13 := h_ (CQ.at_ FB13.out (by simp))
  replace R13 := h_ (R13.out.chg CQ (by simp))
  replace B15 := h_ (CQ.at_ B15.out (by simp))
  replace FB15 := h_ (CQ.at_ FB15.out (by simp))
  replace R15 := h_ (R15.out.chg CQ (by simp))
  replace B17 := h_ (CQ.at_ B17.out (by simp))
  replace FB17 := h_ (CQ.at_ FB17.out (by simp))
  replace R17 := h_ (R17.out.chg CQ (by simp))
  clear CQ C; go_wp2_with fail
  refine (l20awake_c wc).mono ?_
  rintro r w20 ⟨rfl, hc⟩
  replace D := h_ (D.out.trans hc)
  replace B1 := h_ (hc.at_ B1.out (by simp))
  replace R1 := h_ (R1.out.chg hc (by simp))
  replace O1 := h_ (fun a ha => Nat.lt_of_lt_of_le (O1.out a ha) hc.size)
  replace BX := h_ (hc.at_ BX.out (by simp))
  replace RX := h_ (RX.out.chg hc)
  replace B5 := h_ (hc.at_ B5.out (by simp))
  replace R5 := h_ (R5.out.chg hc (by simp))
  replace O5 := h_ (fun a ha => Nat.lt_of_lt_of_le (O5.out a ha) hc.size)
  replace B7 := h_ (hc.at_ B7.out (by simp))
  replace R7 := h_ (R7.out.chg hc (by simp))
  replace O7 := h_ (fun a ha => Nat.lt_of_lt_of_le (O7.out a ha) hc.size)
  replace B9 := h_ (hc.at_ B9.out (by simp))
  replace R9 := h_ (R9.out.chg hc (by simp))
  replace O9 := h_ (fun a ha => Nat.lt_of_lt_of_le (O9.out a ha) hc.size)
  replace HBB := h_ (HBB.out.chg hc (by simp))
  replace B13 := h_ (hc.at_ B13.out (by simp))
  replace FB13 := h_ (hc.at_ FB13.out (by simp))
  replace R13 := h_ (R13.out.chg hc (by simp))
  replace B15 := h_ (hc.at_ B15.out (by simp))
  replace FB15 := h_ (hc.at_ FB15.out (by simp))
  replace R15 := h_ (R15.out.chg hc (by simp))
  replace B17 := h_ (hc.at_ B17.out (by simp))
  replace FB17 := h_ (hc.at_ FB17.out (by simp))
  replace R17 := h_ (R17.out.chg hc (by simp))
  clear hc
  obtain ⟨w21, hw, hcn, hb⟩ := news1 w20 (.cells #[.int .u8 1, .int .u8 3, .int .u8 1, .int .u8 2, .int .u8 0, .int .u8 0] 5)
  have WS := h_ hw
  have RS : Hid (Bs w21 (some ⟨w20.heap.size, 0, none⟩) 6 [1, 3, 1, 2, 0, 0]) := h_ (lit_bs (xs := [1, 3, 1, 2, 0, 0]) hb)
  replace D := h_ (D.out.trans hcn)
  replace B1 := h_ (hcn.at_ B1.out (by simp))
  replace R1 := h_ (R1.out.chg hcn (by simp))
  replace O1 := h_ (fun a ha => Nat.lt_of_lt_of_le (O1.out a ha) hcn.size)
  replace BX := h_ (hcn.at_ BX.out (by simp))
  replace RX := h_ (RX.out.chg hcn)
  replace B5 := h_ (hcn.at_ B5.out (by simp))
  replace R5 := h_ (R5.out.chg hcn (by simp))
  replace O5 := h_ (fun a ha => Nat.lt_of_lt_of_le (O5.out a ha) hcn.size)
  replace B7 := h_ (hcn.at_ B7.out (by simp))
  replace R7 := h_ (R7.out.chg hcn (by simp))
  replace O7 := h_ (fun a ha => Nat.lt_of_lt_of_le (O7.out a ha) hcn.size)
  replace B9 := h_ (hcn.at_ B9.out (by simp))
  replace R9 := h_ (R9.out.chg hcn (by simp))
  replace O9 := h_ (fun a ha => Nat.lt_of_lt_of_le (O9.out a ha) hcn.size)
  replace HBB := h_ (HBB.out.chg hcn (by simp))
  replace B13 := h_ (hcn.at_ B13.out (by simp))
  replace FB13 := h_ (hcn.at_ FB13.out (by simp))
  replace R13 := h_ (R13.out.chg hcn (by simp))
  replace B15 := h_ (hcn.at_ B15.out (by simp))
  replace FB15 := h_ (hcn.at_ FB15.out (by simp))
  replace R15 := h_ (R15.out.chg hcn (by simp))
  replace B17 := h_ (hcn.at_ B17.out (by simp))
  replace FB17 := h_ (hcn.at_ FB17.out (by simp))
  replace R17 := h_ (R17.out.chg hcn (by simp))
  clear hw hcn hb
  have SB := h_ (same_any w21 Ab (some ⟨w20.heap.size, 0, none⟩) 6 6 cb 6 [1, 3, 1, 2, 0, 0] [1, 3, 1, 2, 0, 0] HBB.out RS.out)
  go_wp2_with fail
  rw [← WS.out]
  refine SB.out.mono ?_
  rintro r w22 ⟨rfl, rfl⟩
  clear SB RS WS
  rw [beq_self_eq_true]
  obtain ⟨p0, p1⟩ := ce2 FB13.out
  obtain ⟨s0, s1⟩ := ce2 FB15.out
  obtain ⟨u0, u1⟩ := ce2 FB17.out
  obtain ⟨a0, a1⟩ := ce2 B13.out
  obtain ⟨b0, b1⟩ := ce2 B1.out
  have SS := edsame_any w21 3 A13 0 c13 [] 3 A1 0 c1 [] R13.out R1.out (by simp) (by simp)
  rw [show (decide ((3 : Int) = 3) && (([] : List Sp) == [])) = true from rfl] at SS
  have SSH := h_ SS
  clear SS; go_wp2_with fail
  refine SSH.out.mono ?_
  rintro r w23 ⟨rfl, hc⟩
  have E := h_ (D.out.trans hc)
  obtain ⟨p0, p1⟩ := ce2 (hc.at_ FB15.out (by simp))
  obtain ⟨s0, s1⟩ := ce2 (hc.at_ FB17.out (by simp))
  clear hc SSH; go_wp2; go_ret
  first | exact ⟨rfl, E.out⟩ | exact E.out
end
section
open Go.RowKit Go.WideShapes Go.ChangeShapes Go.Deep

def boolTy : RowTy Bool where
 enc := fun x => [.bool x]
 k := 1
 T := 4
 TS := 48
 z := false
 zv := .bool false
 bytes := 1
 klen := fun _ => rfl
 one := by intro x v hv; simp at hv; rcases hv with rfl <;> rfl
 zc := rfl
 kpos := by decide
 bpos := by decide
 under := by kernel_rfl
 info := by kernel_rfl
theorem boolCells {w : World} {g o n j : Nat} {xs : List Bool} (h : RdK boolTy w (some ⟨g, o, none⟩) n xs) {x : Bool} (hx : xs[j]? = some x) : w.cell? ⟨g, o + j, none⟩ = some (.bool x) := by
 have := h.at_ j 0 x _ hx rfl
 rwa [show boolTy.k = 1 from rfl, Nat.mul_one, Nat.add_zero] at this

section
variable {H : Type} {enc : TypeId × Value → H} {w : World} {base : Nat} {spare : Nat → Bool} {held : Bool}
theorem open_bools {n : Nat} {cs : List Value} {y : DataW H × List MemPlace} (h : DataW.trod enc Tryz.prog w base spare held n 48 cs = some y) (hz : ∀ k ∈ y.1.weights Tryz.prog 48, k ≤ reachBytes) :
  ∃ A m d zs, cs = [.slice A m d] ∧ RdK boolTy w A m zs ∧ m * 1 ≤ 140737488351232 ∧ m ≤ d := by
 rcases open_slice Tryz.underlying48 h with ⟨rfl, _⟩ | ⟨a, len, cap, m, k, D, Pl, rfl, _, hl, hm, hmm, rfl, hi⟩
 ·
  exact ⟨none, 0, 0, [], rfl, RdK.nil _ _, by decide, by decide⟩
 ·
  have hlm : len ≤ m := by rw [hmm]; split <;> omega
  obtain ⟨hw, _⟩ := weights_slice Tryz.underlying48 hz
  rw [show Tryz.prog.bytesOf 4 = 1 by kernel_rfl] at hw
  simp [reachBytes] at hw
  have hC : Tryz.prog.cellsOf 4 = 1 := by kernel_rfl
  obtain ⟨l, hll, hat⟩ := list_of (Q := fun i (x : Bool) => w.cell? (a.add i) = some (.bool x)) len (fun i hilt => by
   obtain ⟨cs', hc, ht⟩ := hi i (by omega)
   rw [hC] at hc
   obtain ⟨_, hcl, hat⟩ := World.cells?_some hc
   have hcs : ∃ v, cs' = [v] := by
    match cs', hcl with
    | [v], _ => exact ⟨v, rfl⟩
   obtain ⟨v, rfl⟩ := hcs
   obtain ⟨s, e, _⟩ := DataW.trod_bool Tryz.underlying4 ht
   have g0 := hat 0 (by omega)
   have e := List.singleton_inj.1 e
   subst e
   rw [add_add, Nat.mul_one, Nat.add_zero] at g0
   exact ⟨s, g0⟩)
  refine ⟨some a, len, cap, l, rfl, ⟨hll, fun j v hj => ⟨a, rfl, ?_⟩⟩, by omega, hl⟩
  have hj2 := (List.getElem?_eq_some_iff.1 hj).1
  rw [boolTy.flat_len] at hj2
  have hk : boolTy.k = 1 := rfl
  rw [hk, Nat.mul_one] at hj2
  have e := boolTy.flat_at l j 0 _ (List.getElem?_eq_getElem hj2) (by decide)
  rw [hk, Nat.mul_one, Nat.add_zero, hj] at e
  rw [hat j _ (List.getElem?_eq_getElem hj2)]
  exact e.symm
end
end
end Go.Proofs.YtehmchdhlhchjaaGreatDoor
