/- past: a sweep begins. past: a cursor goes on. past: a cursor passes. past: a cursor goes on. past: a cursor passes. past.until. past: a sweep's step. -/
import Derived.Test.YtfdaclifapfmdaaGreatDoorZcbc
namespace Go.Proofs.YtfdaclifapfmdaaGreatDoor
section
open Go.RowKit Go.Lib
set_option linter.unusedSimpArgs false
set_option linter.unusedVariables false


/-- A sweep through two pasts, at g: what is left of them (their spans lie in the blocks X). -/
structure SwQ (w : World) (g : Nat) (X : List Nat) (la lb : List Sp) (K : Nat) (A : Option Addr) (c : Nat) (B : Option Addr) (d : Nat) : Prop where
  hg : w.heap[g]? = some (.cells #[.int .i64 (hdP la).1, .int .i64 (hdP la).2.1, .int .i64 (hdP la).2.2, .slice A la.tail.length c, .int .i64 (hdP lb).1, .int .i64 (hdP lb).2.1, .int .i64 (hdP lb).2.2, .slice B lb.tail.length d, .func (.func K) #[] #[]] 185 (0, 0))
  ra : RdK spanTy w A la.tail.length la.tail
  ca : la.tail.length ≤ c ∧ c ≤ maxLen
  na : la = [] ∨ ∀ a, A = some a → a.block ∈ X
  rb : RdK spanTy w B lb.tail.length lb.tail
  cb : lb.tail.length ≤ d ∧ d ≤ maxLen
  nb : lb = [] ∨ ∀ a, B = some a → a.block ∈ X
  gx : g ∉ X
def SwP (w : World) (g : Nat) (X : List Nat) (la lb : List Sp) (K : Nat) : Prop := ∃ A c B d, SwQ w g X la lb K A c B d
theorem rd_old {w w' : World} {A : Option Addr} {l : List Sp} (h : RdK spanTy w A l.tail.length l.tail) (k : l = [] ∨ RdK spanTy w' A l.tail.length l.tail) : RdK spanTy w' A l.tail.length l.tail := by
  rcases k with rfl | k
  · exact RdK.nil _ _
  · exact k
theorem SwQ.rachg {w w' : World} {g : Nat} {X : List Nat} {la lb : List Sp} {K : Nat} {A : Option Addr} {c : Nat} {B : Option Addr} {d : Nat} (h : SwQ w g X la lb K A c B d) (hc : Chg [g] w w') : RdK spanTy w' A la.tail.length la.tail :=
  rd_old h.ra (h.na.imp id (fun q => h.ra.chg hc (fun a ha hm => by simp at hm; exact h.gx (hm ▸ q a ha))))
theorem SwQ.rbchg {w w' : World} {g : Nat} {X : List Nat} {la lb : List Sp} {K : Nat} {A : Option Addr} {c : Nat} {B : Option Addr} {d : Nat} (h : SwQ w g X la lb K A c B d) (hc : Chg [g] w w') : RdK spanTy w' B lb.tail.length lb.tail :=
  rd_old h.rb (h.nb.imp id (fun q => h.rb.chg hc (fun a ha hm => by simp at hm; exact h.gx (hm ▸ q a ha))))
theorem SwQ.chg {w w' : World} {S : List Nat} {g : Nat} {X : List Nat} {la lb : List Sp} {K : Nat} {A : Option Addr} {c : Nat} {B : Option Addr} {d : Nat} (h : SwQ w g X la lb K A c B d) (hc : Chg S w w') (hg : g ∉ S) (hX : ∀ z ∈ X, z ∉ S) : SwQ w' g X la lb K A c B d :=
  ⟨hc.at_ h.hg hg, rd_old h.ra (h.na.imp id (fun q => h.ra.chg hc (fun a ha => hX _ (q a ha)))), h.ca, h.na, rd_old h.rb (h.nb.imp id (fun q => h.rb.chg hc (fun a ha => hX _ (q a ha)))), h.cb, h.nb, h.gx⟩
theorem SwP.chg {w w' : World} {S : List Nat} {g : Nat} {X : List Nat} {la lb : List Sp} {K : Nat} (h : SwP w g X la lb K) (hc : Chg S w w') (hg : g ∉ S) (hX : ∀ z ∈ X, z ∉ S) : SwP w' g X la lb K := by
  obtain ⟨A, c, B, d, h⟩ := h
  exact ⟨A, c, B, d, h.chg hc hg hX⟩
theorem join3 {α β γ : Type} {F R : α → β → γ → Prop} {G : Prop} (h1 : (∀ a b c, F a b c → R a b c) → G) (h2 : ∀ a b c, F a b c → R a b c) : G := h1 h2
set_option maxRecDepth 100000 in
set_option maxHeartbeats 4000000 in
theorem over_anyw (w : World) (A : Option Addr) (c : Nat) (la : List Sp) (B : Option Addr) (d : Nat) (lb : List Sp) (K : Nat) (X : List Nat) (ha : RdK spanTy w A la.length la) (hca : la.length ≤ c ∧ c ≤ maxLen) (hoa : la = [] ∨ ∀ a, A = some a → a.block < w.heap.size) (hb : RdK spanTy w B lb.length lb) (hcb : lb.length ≤ d ∧ d ≤ maxLen) (hob : lb = [] ∨ ∀ a, B = some a → a.block < w.heap.size) (hxa : la = [] ∨ ∀ a, A = some a → a.block ∈ X) (hxb : lb = [] ∨ ∀ a, B = some a → a.block ∈ X) (hX : ∀ z ∈ X, z < w.heap.size) :
    Calls Tryz.prog 150 #[.slice A la.length c, .slice B lb.length d, .func (.func K) #[] #[]] w fun e w' => ∃ g, e = .returned (.pointer (some ⟨g, 0, none⟩)) ∧ SwP w' g X la lb K ∧ w.heap.size ≤ g ∧ Chg [] w w' := by
  have HA := Lib.hid ha
  have HCA := Lib.hid hca
  have HOA := Lib.hid hoa
  have HB := Lib.hid hb
  have HCB := Lib.hid hcb
  have HOB := Lib.hid hob
  clear ha hca hoa hb hcb hob
  go_enter Tryz.func150, Tryz.ntmps150
  go_wp2_with fail
  refine (begin_anyw w A c la HA.out HCA.out HOA.out).mono ?_
  rintro r w1 ⟨A', c', rfl, h1, h2, h3, h4⟩
  have H1 := Lib.hid h1
  have H2 := Lib.hid h2
  have H3 := Lib.hid h3
  have C1 := Lib.hid h4
  clear h1 h2 h3 h4
  go_wp2_with fail
  refine (begin_anyw w1 B d lb (HB.out.chg C1.out (by simp)) HCB.out (HOB.out.imp id (fun q a ha => Nat.lt_of_lt_of_le (q a ha) C1.out.size))).mono ?_
  rintro r w2 ⟨B', d', rfl, h1, h2, h3, h4⟩
  have H4 := Lib.hid h1
  have H5 := Lib.hid h2
  have H6 := Lib.hid h3
  have C2 := Lib.hid h4
  clear h1 h2 h3 h4
  obtain ⟨w3, hw3, c3, b3⟩ := news1 w2 (.cells #[.int .i64 (hdP la).1, .int .i64 (hdP la).2.1, .int .i64 (hdP la).2.2, .slice A' (la.length - 1) c', .int .i64 (hdP lb).1, .int .i64 (hdP lb).2.1, .int .i64 (hdP lb).2.2, .slice B' (lb.length - 1) d', .func (.func K) #[] #[]] 185)
  have W3 := Lib.hid hw3
  have C3 := Lib.hid (C1.out.trans (C2.out.trans c3))
  have FI : Hid (SwP w3 w2.heap.size X la lb K) := Lib.hid ⟨A', c', B', d', by rw [List.length_tail, List.length_tail]; exact b3, (H1.out.chg C2.out (by simp)).chg c3 (by simp), H2.out, hxa.imp id (fun q a ha => by obtain ⟨b, hb, e⟩ := H3.out a ha; rw [e]; exact q b hb), H4.out.chg c3 (by simp), H5.out, hxb.imp id (fun q a ha => by obtain ⟨b, hb, e⟩ := H6.out a ha; rw [e]; exact q b hb), fun hm => by have := hX _ hm; have := C1.out.size; have := C2.out.size; omega⟩
  have SZ := Lib.hid (show w.heap.size ≤ w2.heap.size from Nat.le_trans C1.out.size C2.out.size)
  clear hw3 c3 b3
  go_wp2
  rw [← W3.out]
  go_ret
  exact ⟨_, rfl, FI.out, SZ.out, C3.out⟩
end
section
open Go.RowKit Go.Lib
set_option linter.unusedSimpArgs false
set_option linter.unusedVariables false


set_option maxRecDepth 100000 in
theorem next_none_a (w : World) (g : Nat) (v0 v1 v2 v3 vk : Value) (h0 h1 h2 : Value) (B : Option Addr) (c : Nat) (hb : w.heap[g]? = some (.cells #[h0, h1, h2, .slice B 0 c, v0, v1, v2, v3, vk] 185 (0, 0))) :
    Calls Tryz.prog 200 #[.pointer (some ⟨g, 0, none⟩)] w fun e w' => e = .returned (.tuple #[]) ∧ w'.heap[g]? = some (.cells #[.int .i64 201, .int .i64 0, .int .i64 0, .slice B 0 c, v0, v1, v2, v3, vk] 185 (0, 0)) ∧ Chg [g] w w' := by
  have HB := Lib.hid hb
  clear hb
  go_enter Tryz.func200, Tryz.ntmps200
  have z0 := cell_of HB.out 0
  have z1 := cell_of HB.out 1
  have z2 := cell_of HB.out 2
  have z3 := cell_of HB.out 3
  have fz0 := free_of HB.out 0
  have fz1 := free_of HB.out 1
  have fz2 := free_of HB.out 2
  simp only [List.getElem?_toArray, List.getElem?_cons_succ, List.getElem?_cons_zero] at z0 z1 z2 z3
  have p0 := heap_setCell_same w g 0 _ _ (.int .i64 201) HB.out
  have p1 := heap_setCell_same (w.setCell ⟨g, 0, none⟩ (.int .i64 201)) g 1 _ _ (.int .i64 0) p0
  have p2 := heap_setCell_same ((w.setCell ⟨g, 0, none⟩ (.int .i64 201)).setCell ⟨g, 1, none⟩ (.int .i64 0)) g 2 _ _ (.int .i64 0) p1
  simp only [List.setIfInBounds_toArray, List.set_cons_zero, List.set_cons_succ] at p2
  have HP := Lib.hid p2
  have CP := Lib.hid ((((Chg.refl [g] w).setCell (p := ⟨g, 0, none⟩) (.inl (by simp)) (.int .i64 201)).setCell (p := ⟨g, 1, none⟩) (.inl (by simp)) (.int .i64 0)).setCell (p := ⟨g, 2, none⟩) (.inl (by simp)) (.int .i64 0))
  clear p0 p1 p2
  go_wp2
  refine bodyPost_ret (results_none rfl _ _ _) rfl ?_
  exact ⟨rfl, HP.out, CP.out⟩
set_option maxRecDepth 100000 in
set_option maxHeartbeats 4000000 in
theorem next_some_a (w : World) (g : Nat) (v0 v1 v2 v3 vk : Value) (h0 h1 h2 : Value) (B : Option Addr) (c : Nat) (x : Sp) (r : List Sp) (hb : w.heap[g]? = some (.cells #[h0, h1, h2, .slice B (r.length + 1) c, v0, v1, v2, v3, vk] 185 (0, 0))) (hr : RdK spanTy w B (r.length + 1) (x :: r)) (hn : r.length + 1 ≤ c ∧ c ≤ maxLen) (hB : ∀ a, B = some a → a.block ≠ g) :
    Calls Tryz.prog 200 #[.pointer (some ⟨g, 0, none⟩)] w fun e w' => e = .returned (.tuple #[]) ∧ ∃ B' c', w'.heap[g]? = some (.cells #[.int .i64 x.1, .int .i64 x.2.1, .int .i64 x.2.2, (.slice B' r.length c'), v0, v1, v2, v3, vk] 185 (0, 0)) ∧ RdK spanTy w' B' r.length r ∧ (r.length ≤ c' ∧ c' ≤ maxLen) ∧ (∀ a, B' = some a → ∃ b, B = some b ∧ a.block = b.block) ∧ Chg [g] w w' := by
  obtain ⟨gB, oB, eB, _⟩ := hr.line (by omega)
  subst eB
  have HR := Lib.hid hr
  have HN := Lib.hid hn
  have NB := Lib.hid (hB ⟨gB, oB, none⟩ rfl)
  obtain ⟨y0, y1, y2⟩ := spanCells hr (j := 0) (x := x) rfl
  rw [Nat.zero_mul, Nat.add_zero] at y0 y1 y2
  have HB := Lib.hid hb
  have Y := Lib.hid (show w.cell? ⟨gB, oB, none⟩ = some (.int .i64 x.1) ∧ w.cell? ⟨gB, oB + 1, none⟩ = some (.int .i64 x.2.1) ∧ w.cell? ⟨gB, oB + 2, none⟩ = some (.int .i64 x.2.2) from ⟨y0, y1, y2⟩)
  clear hb hr hn y0 y1 y2 hB
  have n0 : (((r.length + 1 : Nat) : Int) == 0) = false := by simp; omega
  have n1 : (0 : Int) < ((r.length + 1 : Nat) : Int) := by omega
  have n2 : (1 : Int) ≤ ((r.length + 1 : Nat) : Int) := by omega
  have n3 : ((r.length + 1 : Nat) : Int) ≤ (c : Int) := by have := HN.out; omega
  have n5 : (1 : Int) ≤ (r.length : Int) + 1 := by omega
  have n4 : r.length + 1 - 1 = r.length := by omega
  have HT : Hid (RdK spanTy w (if c = 1 then some ⟨gB, oB, none⟩ else some ⟨gB, oB + 3, none⟩) r.length r) := Lib.hid (by
    split
    · have := HN.out
      have e : r = [] := List.eq_nil_of_length_eq_zero (by omega)
      subst e
      exact RdK.nil _ _
    · have q := HR.out.part 1 r.length (by omega)
      simpa [RowTy.k, spanTy] using q)
  go_enter Tryz.func200, Tryz.ntmps200
  have z3 := cell_of HB.out 3
  simp only [List.getElem?_toArray, List.getElem?_cons_succ, List.getElem?_cons_zero] at z3
  go_upto_region 2 with fail
  clear z3
  refine wp_region_held_drew (S := fun _ => True) (by kernel_rfl) trivial (fun hHeld => ?_)
  have CD := Lib.hid (Chg.refl [g] w).drew
  replace HB := Lib.hid (show w.drew.heap[g]? = some _ from HB.out)
  replace Y := Lib.hid (show w.drew.cell? ⟨gB, oB, none⟩ = some (.int .i64 x.1) ∧ w.drew.cell? ⟨gB, oB + 1, none⟩ = some (.int .i64 x.2.1) ∧ w.drew.cell? ⟨gB, oB + 2, none⟩ = some (.int .i64 x.2.2) from Y.out)
  replace HT := Lib.hid (show RdK spanTy w.drew _ r.length r from HT.out.chg (Chg.refl [] w).drew (by simp))
  generalize w.drew = wd at *
  generalize hAD : (if c = 1 then some ⟨gB, oB, none⟩ else some ⟨gB, oB + 3, none⟩ : Option Addr) = AD at *
  have AB : Hid (∀ a, AD = some a → a.block = gB) := Lib.hid (by intro a ha; rw [← hAD] at ha; split at ha <;> cases ha <;> rfl)
  refine sy 0 12 rfl rfl ?_ (hS := trivial)
  try simp only [Act.put, sA, s0, s1]
  refine sy 1 13 rfl rfl ?_ (hS := trivial)
  try simp only [Act.put, sA, s0, s1]
  refine sy 2 14 rfl rfl ?_ (hS := trivial)
  try simp only [Act.put, sA, s0, s1]
  refine sy 3 15 rfl rfl ?_ (hS := trivial)
  try simp only [Act.put, sA, s0, s1]
  refine sy 4 16 rfl rfl ?_ (hS := trivial)
  try simp only [Act.put, sA, s0, s1]
  refine sy 8 20 rfl rfl ?_ (hS := trivial)
  try simp only [Act.put, sA, s0, s1]
  refine sy 9 21 rfl rfl ?_ (hS := trivial)
  try simp only [Act.put, sA, s0, s1]
  refine sy 10 22 rfl rfl ?_ (hS := trivial)
  try simp only [Act.put, sA, s0, s1]
  refine wpAnyH_ready (rs := [5, 11]) (by kernel_rfl) (by simp) ?_
  refine AllReadyH.cons rfl (fun K hK => ?_) (AllReadyH.cons rfl (fun K hK => ?_) AllReadyH.nil)
  · skip
    replace hK := Lib.hid hK
    have z3 := cell_of HB.out 3
    simp only [List.getElem?_toArray, List.getElem?_cons_succ, List.getElem?_cons_zero] at z3
    go_simp
    clear z3 hHeld
    refine hK.out _ _ trivial (fun hHeld => ?_)
    clear hK K
    try simp only [Act.put, sA, s0, s1]
    refine sy 6 18 rfl rfl ?_ (hS := trivial)
    try simp only [Act.put, sA, s0, s1]
    refine wpAnyH_ready (rs := [7, 11]) (by kernel_rfl) (by simp) ?_
    refine AllReadyH.cons rfl (fun K hK => ?_) (AllReadyH.cons rfl (fun K hK => ?_) AllReadyH.nil)
    · skip
      replace hK := Lib.hid hK
      obtain ⟨y0, y1, y2⟩ := Y.out
      go_simp
      clear y0 y1 y2 hHeld
      refine hK.out _ _ trivial (fun hHeld => ?_)
      clear hK K
      try simp only [Act.put, sA, s0, s1]
      refine wpAnyH_ready (rs := [11]) (by kernel_rfl) (by simp) ?_
      refine AllReadyH.cons rfl (fun K hK => ?_) AllReadyH.nil
      replace hK := Lib.hid hK
      have z3 := cell_of HB.out 3
      simp only [List.getElem?_toArray, List.getElem?_cons_succ, List.getElem?_cons_zero] at z3
      go_simp
      clear z3 hHeld
      refine hK.out _ _ trivial (fun hHeld => ?_)
      clear hK K
      try simp only [Act.put, sA, s0, s1]
      refine sy 12 24 rfl rfl ?_ (hS := trivial)
      try simp only [Act.put, sA, s0, s1]
      refine sy 13 25 rfl rfl ?_ (hS := trivial)
      try simp only [Act.put, sA, s0, s1]
      refine sy 14 26 rfl rfl ?_ (hS := trivial)
      try simp only [Act.put, sA, s0, s1]
      refine wpAnyH_ready (rs := [15]) (by kernel_rfl) (by simp) ?_
      refine AllReadyH.cons rfl (fun K hK => ?_) AllReadyH.nil
      replace hK := Lib.hid hK
      have z0 := cell_of HB.out 0
      have z1 := cell_of HB.out 1
      have z2 := cell_of HB.out 2
      have fz0 := free_of HB.out 0
      have fz1 := free_of HB.out 1
      have fz2 := free_of HB.out 2
      simp only [List.getElem?_toArray, List.getElem?_cons_succ, List.getElem?_cons_zero] at z0 z1 z2
      have p0 := heap_setCell_same wd g 0 _ _ (.int .i64 x.1) HB.out
      have p1 := heap_setCell_same (wd.setCell ⟨g, 0, none⟩ (.int .i64 x.1)) g 1 _ _ (.int .i64 x.2.1) p0
      have p2 := heap_setCell_same ((wd.setCell ⟨g, 0, none⟩ (.int .i64 x.1)).setCell ⟨g, 1, none⟩ (.int .i64 x.2.1)) g 2 _ _ (.int .i64 x.2.2) p1
      simp only [List.setIfInBounds_toArray, List.set_cons_zero, List.set_cons_succ] at p2
      have HP := Lib.hid p2
      clear p0 p1 p2
      go_simp
      clear hHeld z0 fz0 z1 fz1 z2 fz2
      refine hK.out _ _ trivial (fun hHeld => ?_)
      clear hK K
      try simp only [Act.put, sA, s0, s1]
      refine sy 16 27 rfl rfl ?_ (hS := trivial)
      try simp only [Act.put, sA, s0, s1]
      refine sy 17 28 rfl rfl ?_ (hS := trivial)
      try simp only [Act.put, sA, s0, s1]
      refine wpAnyH_ready (rs := [18]) (by kernel_rfl) (by simp) ?_
      refine AllReadyH.cons rfl (fun K hK => ?_) AllReadyH.nil
      replace hK := Lib.hid hK
      have z3 := cell_of HP.out 3
      have fz3 := free_of HP.out 3
      simp only [List.getElem?_toArray, List.getElem?_cons_succ, List.getElem?_cons_zero] at z3
      go_simp
      clear hHeld z3 fz3
      refine hK.out _ _ trivial (fun hHeld => ?_)
      clear hK K
      try simp only [Act.put, sA, s0, s1]
      refine wpAnyH_done (by kernel_rfl) ?_ _
      have HQ := heap_setCell_same _ g 3 _ _ (.slice AD r.length (c - 1)) HP.out
      simp only [List.setIfInBounds_toArray, List.set_cons_zero, List.set_cons_succ] at HQ
      have CQ := Lib.hid (((((Chg.refl [g] wd).setCell (p := ⟨g, 0, none⟩) (.inl (by simp)) (.int .i64 x.1)).setCell (p := ⟨g, 1, none⟩) (.inl (by simp)) (.int .i64 x.2.1)).setCell (p := ⟨g, 2, none⟩) (.inl (by simp)) (.int .i64 x.2.2)).setCell (p := ⟨g, 3, none⟩) (.inl (by simp)) (.slice AD r.length (c - 1)))
      have HQ2 := Lib.hid HQ
      clear HQ
      go_wp2
      go_end0
      exact ⟨rfl, AD, c - 1, HQ2.out, HT.out.chg CQ.out (fun a ha => by rw [AB.out a ha]; simpa using NB.out), by have := HN.out; omega, fun a ha => by (first | exact ⟨_, rfl, AB.out a ha⟩ | exact AB.out a ha | simpa using AB.out a ha), CD.out.trans CQ.out⟩
    · skip
      replace hK := Lib.hid hK
      have z3 := cell_of HB.out 3
      simp only [List.getElem?_toArray, List.getElem?_cons_succ, List.getElem?_cons_zero] at z3
      go_simp
      clear z3 hHeld
      refine hK.out _ _ trivial (fun hHeld => ?_)
      clear hK K
      try simp only [Act.put, sA, s0, s1]
      refine sy 12 24 rfl rfl ?_ (hS := trivial)
      try simp only [Act.put, sA, s0, s1]
      refine wpAnyH_ready (rs := [7]) (by kernel_rfl) (by simp) ?_
      refine AllReadyH.cons rfl (fun K hK => ?_) AllReadyH.nil
      replace hK := Lib.hid hK
      obtain ⟨y0, y1, y2⟩ := Y.out
      go_simp
      clear y0 y1 y2 hHeld
      refine hK.out _ _ trivial (fun hHeld => ?_)
      clear hK K
      try simp only [Act.put, sA, s0, s1]
      refine sy 13 25 rfl rfl ?_ (hS := trivial)
      try simp only [Act.put, sA, s0, s1]
      refine sy 14 26 rfl rfl ?_ (hS := trivial)
      try simp only [Act.put, sA, s0, s1]
      refine wpAnyH_ready (rs := [15]) (by kernel_rfl) (by simp) ?_
      refine AllReadyH.cons rfl (fun K hK => ?_) AllReadyH.nil
      replace hK := Lib.hid hK
      have z0 := cell_of HB.out 0
      have z1 := cell_of HB.out 1
      have z2 := cell_of HB.out 2
      have fz0 := free_of HB.out 0
      have fz1 := free_of HB.out 1
      have fz2 := free_of HB.out 2
      simp only [List.getElem?_toArray, List.getElem?_cons_succ, List.getElem?_cons_zero] at z0 z1 z2
      have p0 := heap_setCell_same wd g 0 _ _ (.int .i64 x.1) HB.out
      have p1 := heap_setCell_same (wd.setCell ⟨g, 0, none⟩ (.int .i64 x.1)) g 1 _ _ (.int .i64 x.2.1) p0
      have p2 := heap_setCell_same ((wd.setCell ⟨g, 0, none⟩ (.int .i64 x.1)).setCell ⟨g, 1, none⟩ (.int .i64 x.2.1)) g 2 _ _ (.int .i64 x.2.2) p1
      simp only [List.setIfInBounds_toArray, List.set_cons_zero, List.set_cons_succ] at p2
      have HP := Lib.hid p2
      clear p0 p1 p2
      go_simp
      clear hHeld z0 fz0 z1 fz1 z2 fz2
      refine hK.out _ _ trivial (fun hHeld => ?_)
      clear hK K
      try simp only [Act.put, sA, s0, s1]
      refine sy 16 27 rfl rfl ?_ (hS := trivial)
      try simp only [Act.put, sA, s0, s1]
      refine sy 17 28 rfl rfl ?_ (hS := trivial)
      try simp only [Act.put, sA, s0, s1]
      refine wpAnyH_ready (rs := [18]) (by kernel_rfl) (by simp) ?_
      refine AllReadyH.cons rfl (fun K hK => ?_) AllReadyH.nil
      replace hK := Lib.hid hK
      have z3 := cell_of HP.out 3
      have fz3 := free_of HP.out 3
      simp only [List.getElem?_toArray, List.getElem?_cons_succ, List.getElem?_cons_zero] at z3
      go_simp
      clear hHeld z3 fz3
      refine hK.out _ _ trivial (fun hHeld => ?_)
      clear hK K
      try simp only [Act.put, sA, s0, s1]
      refine wpAnyH_done (by kernel_rfl) ?_ _
      have HQ := heap_setCell_same _ g 3 _ _ (.slice AD r.length (c - 1)) HP.out
      simp only [List.setIfInBounds_toArray, List.set_cons_zero, List.set_cons_succ] at HQ
      have CQ := Lib.hid (((((Chg.refl [g] wd).setCell (p := ⟨g, 0, none⟩) (.inl (by simp)) (.int .i64 x.1)).setCell (p := ⟨g, 1, none⟩) (.inl (by simp)) (.int .i64 x.2.1)).setCell (p := ⟨g, 2, none⟩) (.inl (by simp)) (.int .i64 x.2.2)).setCell (p := ⟨g, 3, none⟩) (.inl (by simp)) (.slice AD r.length (c - 1)))
      have HQ2 := Lib.hid HQ
      clear HQ
      go_wp2
      go_end0
      exact ⟨rfl, AD, c - 1, HQ2.out, HT.out.chg CQ.out (fun a ha => by rw [AB.out a ha]; simpa using NB.out), by have := HN.out; omega, fun a ha => by (first | exact ⟨_, rfl, AB.out a ha⟩ | exact AB.out a ha | simpa using AB.out a ha), CD.out.trans CQ.out⟩
  · skip
    replace hK := Lib.hid hK
    have z3 := cell_of HB.out 3
    simp only [List.getElem?_toArray, List.getElem?_cons_succ, List.getElem?_cons_zero] at z3
    go_simp
    clear z3 hHeld
    refine hK.out _ _ trivial (fun hHeld => ?_)
    clear hK K
    try simp only [Act.put, sA, s0, s1]
    refine sy 12 24 rfl rfl ?_ (hS := trivial)
    try simp only [Act.put, sA, s0, s1]
    refine wpAnyH_ready (rs := [5]) (by kernel_rfl) (by simp) ?_
    refine AllReadyH.cons rfl (fun K hK => ?_) AllReadyH.nil
    replace hK := Lib.hid hK
    have z3 := cell_of HB.out 3
    simp only [List.getElem?_toArray, List.getElem?_cons_succ, List.getElem?_cons_zero] at z3
    go_simp
    clear z3 hHeld
    refine hK.out _ _ trivial (fun hHeld => ?_)
    clear hK K
    try simp only [Act.put, sA, s0, s1]
    refine sy 6 18 rfl rfl ?_ (hS := trivial)
    try simp only [Act.put, sA, s0, s1]
    refine wpAnyH_ready (rs := [7]) (by kernel_rfl) (by simp) ?_
    refine AllReadyH.cons rfl (fun K hK => ?_) AllReadyH.nil
    replace hK := Lib.hid hK
    obtain ⟨y0, y1, y2⟩ := Y.out
    go_simp
    clear y0 y1 y2 hHeld
    refine hK.out _ _ trivial (fun hHeld => ?_)
    clear hK K
    try simp only [Act.put, sA, s0, s1]
    refine sy 13 25 rfl rfl ?_ (hS := trivial)
    try simp only [Act.put, sA, s0, s1]
    refine sy 14 26 rfl rfl ?_ (hS := trivial)
    try simp only [Act.put, sA, s0, s1]
    refine wpAnyH_ready (rs := [15]) (by kernel_rfl) (by simp) ?_
    refine AllReadyH.cons rfl (fun K hK => ?_) AllReadyH.nil
    replace hK := Lib.hid hK
    have z0 := cell_of HB.out 0
    have z1 := cell_of HB.out 1
    have z2 := cell_of HB.out 2
    have fz0 := free_of HB.out 0
    have fz1 := free_of HB.out 1
    have fz2 := free_of HB.out 2
    simp only [List.getElem?_toArray, List.getElem?_cons_succ, List.getElem?_cons_zero] at z0 z1 z2
    have p0 := heap_setCell_same wd g 0 _ _ (.int .i64 x.1) HB.out
    have p1 := heap_setCell_same (wd.setCell ⟨g, 0, none⟩ (.int .i64 x.1)) g 1 _ _ (.int .i64 x.2.1) p0
    have p2 := heap_setCell_same ((wd.setCell ⟨g, 0, none⟩ (.int .i64 x.1)).setCell ⟨g, 1, none⟩ (.int .i64 x.2.1)) g 2 _ _ (.int .i64 x.2.2) p1
    simp only [List.setIfInBounds_toArray, List.set_cons_zero, List.set_cons_succ] at p2
    have HP := Lib.hid p2
    clear p0 p1 p2
    go_simp
    clear hHeld z0 fz0 z1 fz1 z2 fz2
    refine hK.out _ _ trivial (fun hHeld => ?_)
    clear hK K
    try simp only [Act.put, sA, s0, s1]
    refine sy 16 27 rfl rfl ?_ (hS := trivial)
    try simp only [Act.put, sA, s0, s1]
    refine sy 17 28 rfl rfl ?_ (hS := trivial)
    try simp only [Act.put, sA, s0, s1]
    refine wpAnyH_ready (rs := [18]) (by kernel_rfl) (by simp) ?_
    refine AllReadyH.cons rfl (fun K hK => ?_) AllReadyH.nil
    replace hK := Lib.hid hK
    have z3 := cell_of HP.out 3
    have fz3 := free_of HP.out 3
    simp only [List.getElem?_toArray, List.getElem?_cons_succ, List.getElem?_cons_zero] at z3
    go_simp
    clear hHeld z3 fz3
    refine hK.out _ _ trivial (fun hHeld => ?_)
    clear hK K
    try simp only [Act.put, sA, s0, s1]
    refine wpAnyH_done (by kernel_rfl) ?_ _
    have HQ := heap_setCell_same _ g 3 _ _ (.slice AD r.length (c - 1)) HP.out
    simp only [List.setIfInBounds_toArray, List.set_cons_zero, List.set_cons_succ] at HQ
    have CQ := Lib.hid (((((Chg.refl [g] wd).setCell (p := ⟨g, 0, none⟩) (.inl (by simp)) (.int .i64 x.1)).setCell (p := ⟨g, 1, none⟩) (.inl (by simp)) (.int .i64 x.2.1)).setCell (p := ⟨g, 2, none⟩) (.inl (by simp)) (.int .i64 x.2.2)).setCell (p := ⟨g, 3, none⟩) (.inl (by simp)) (.slice AD r.length (c - 1)))
    have HQ2 := Lib.hid HQ
    clear HQ
    go_wp2
    go_end0
    exact ⟨rfl, AD, c - 1, HQ2.out, HT.out.chg CQ.out (fun a ha => by rw [AB.out a ha]; simpa using NB.out), by have := HN.out; omega, fun a ha => by (first | exact ⟨_, rfl, AB.out a ha⟩ | exact AB.out a ha | simpa using AB.out a ha), CD.out.trans CQ.out⟩
end
section
open Go.RowKit Go.Lib
set_option linter.unusedSimpArgs false
set_option linter.unusedVariables false


set_option maxRecDepth 100000 in
set_option maxHeartbeats 4000000 in
theorem pass_a (w : World) (g : Nat) (v0 v1 v2 v3 vk : Value) (B : Option Addr) (c : Nat) (x : Sp) (r : List Sp) (tt : Int) (hto : 0 ≤ tt ∧ tt ≤ 2147483647) (hb : w.heap[g]? = some (.cells #[.int .i64 x.1, .int .i64 x.2.1, .int .i64 x.2.2, .slice B r.length c, v0, v1, v2, v3, vk] 185 (0, 0))) (hr : RdK spanTy w B r.length r) (hn : r.length ≤ c ∧ c ≤ maxLen) (hB : ∀ a, B = some a → a.block ≠ g) :
    Calls Tryz.prog 202 #[.pointer (some ⟨g, 0, none⟩), .int .i64 tt] w fun e w' => e = .returned (.tuple #[]) ∧ ∃ B' c', w'.heap[g]? = some (.cells #[.int .i64 (hdP (passP (x :: r) tt)).1, .int .i64 (hdP (passP (x :: r) tt)).2.1, .int .i64 (hdP (passP (x :: r) tt)).2.2, .slice B' (passP (x :: r) tt).tail.length c', v0, v1, v2, v3, vk] 185 (0, 0)) ∧ RdK spanTy w' B' (passP (x :: r) tt).tail.length (passP (x :: r) tt).tail ∧ ((passP (x :: r) tt).tail.length ≤ c' ∧ c' ≤ maxLen) ∧ (∀ a, B' = some a → ∃ b, B = some b ∧ a.block = b.block) ∧ Chg [g] w w' := by
  have HB := Lib.hid hb
  have HR := Lib.hid hr
  have HN := Lib.hid hn
  have NB := Lib.hid hB
  clear hb hr hn hB
  have e1 : IntKind.i64.wrap (tt + 1) = tt + 1 := IntWalk.i64_in _ (by omega)
  by_cases hlt : tt < x.2.2
  · have hp : passP (x :: r) tt = (x.1, tt + 1, x.2.2) :: r := by unfold passP; simp only; rw [if_pos hlt]
    rw [hp]
    simp only [hd_cons, List.tail_cons]
    have HLT := hlt
    clear hp
    go_enter Tryz.func202, Tryz.ntmps202
    have z0 := cell_of HB.out 0
    have z1 := cell_of HB.out 1
    have z2 := cell_of HB.out 2
    have z3 := cell_of HB.out 3
    have fz1 := free_of HB.out 1
    simp only [List.getElem?_toArray, List.getElem?_cons_succ, List.getElem?_cons_zero] at z0 z1 z2 z3
    have HQ := heap_setCell_same w g 1 _ _ (.int .i64 (tt + 1)) HB.out
    simp only [List.setIfInBounds_toArray, List.set_cons_zero, List.set_cons_succ] at HQ
    have HP := Lib.hid HQ
    have CP := Lib.hid ((Chg.refl [g] w).setCell (p := ⟨g, 1, none⟩) (.inl (by simp)) (.int .i64 (tt + 1)))
    clear HQ
    go_wp2
    refine bodyPost_ret (results_none rfl _ _ _) rfl ?_
    exact ⟨rfl, B, c, HP.out, HR.out.chg CP.out (fun a ha => by simpa using NB.out a ha), HN.out, fun a ha => ⟨a, ha, rfl⟩, CP.out⟩
  · have hp : passP (x :: r) tt = r := by unfold passP; simp only; rw [if_neg hlt]
    rw [hp]
    clear hp
    cases r with
    | nil =>
      go_enter Tryz.func202, Tryz.ntmps202
      have z0 := cell_of HB.out 0
      have z1 := cell_of HB.out 1
      have z2 := cell_of HB.out 2
      have z3 := cell_of HB.out 3
      simp only [List.getElem?_toArray, List.getElem?_cons_succ, List.getElem?_cons_zero] at z0 z1 z2 z3
      go_wp2_with fail
      clear z0 z1 z2 z3
      refine (next_none_a w g v0 v1 v2 v3 vk _ _ _ B c HB.out).mono ?_
      rintro e w' ⟨rfl, h1, h2⟩
      have HP := Lib.hid h1
      have CP := Lib.hid h2
      clear h1 h2
      go_wp2
      go_end0
      exact ⟨rfl, B, c, HP.out, RdK.nil _ _, ⟨Nat.zero_le _, HN.out.2⟩, fun a ha => ⟨a, ha, rfl⟩, CP.out⟩
    | cons y r2 =>
      go_enter Tryz.func202, Tryz.ntmps202
      have z0 := cell_of HB.out 0
      have z1 := cell_of HB.out 1
      have z2 := cell_of HB.out 2
      have z3 := cell_of HB.out 3
      simp only [List.getElem?_toArray, List.getElem?_cons_succ, List.getElem?_cons_zero] at z0 z1 z2 z3
      go_wp2_with fail
      clear z0 z1 z2 z3
      refine (next_some_a w g v0 v1 v2 v3 vk _ _ _ B c y r2 HB.out HR.out HN.out NB.out).mono ?_
      rintro e w' ⟨rfl, B2, c2, h1, h2, h3, h4, h5⟩
      have HP := Lib.hid h1
      have CP := Lib.hid h5
      have H2 := Lib.hid h2
      have H3 := Lib.hid h3
      have H4 := Lib.hid h4
      clear h1 h2 h3 h4 h5
      go_wp2
      go_end0
      exact ⟨rfl, B2, c2, HP.out, H2.out, H3.out, H4.out, CP.out⟩
end
section
open Go.RowKit Go.Lib
set_option linter.unusedSimpArgs false
set_option linter.unusedVariables false


set_option maxRecDepth 100000 in
theorem next_none_b (w : World) (g : Nat) (v0 v1 v2 v3 vk : Value) (h0 h1 h2 : Value) (B : Option Addr) (c : Nat) (hb : w.heap[g]? = some (.cells #[v0, v1, v2, v3, h0, h1, h2, .slice B 0 c, vk] 185 (0, 0))) :
    Calls Tryz.prog 200 #[.pointer (some ⟨g, 4, none⟩)] w fun e w' => e = .returned (.tuple #[]) ∧ w'.heap[g]? = some (.cells #[v0, v1, v2, v3, .int .i64 201, .int .i64 0, .int .i64 0, .slice B 0 c, vk] 185 (0, 0)) ∧ Chg [g] w w' := by
  have HB := Lib.hid hb
  clear hb
  go_enter Tryz.func200, Tryz.ntmps200
  have z4 := cell_of HB.out 4
  have z5 := cell_of HB.out 5
  have z6 := cell_of HB.out 6
  have z7 := cell_of HB.out 7
  have fz4 := free_of HB.out 4
  have fz5 := free_of HB.out 5
  have fz6 := free_of HB.out 6
  simp only [List.getElem?_toArray, List.getElem?_cons_succ, List.getElem?_cons_zero] at z4 z5 z6 z7
  have p0 := heap_setCell_same w g 4 _ _ (.int .i64 201) HB.out
  have p1 := heap_setCell_same (w.setCell ⟨g, 4, none⟩ (.int .i64 201)) g 5 _ _ (.int .i64 0) p0
  have p2 := heap_setCell_same ((w.setCell ⟨g, 4, none⟩ (.int .i64 201)).setCell ⟨g, 5, none⟩ (.int .i64 0)) g 6 _ _ (.int .i64 0) p1
  simp only [List.setIfInBounds_toArray, List.set_cons_zero, List.set_cons_succ] at p2
  have HP := Lib.hid p2
  have CP := Lib.hid ((((Chg.refl [g] w).setCell (p := ⟨g, 4, none⟩) (.inl (by simp)) (.int .i64 201)).setCell (p := ⟨g, 5, none⟩) (.inl (by simp)) (.int .i64 0)).setCell (p := ⟨g, 6, none⟩) (.inl (by simp)) (.int .i64 0))
  clear p0 p1 p2
  go_wp2
  refine bodyPost_ret (results_none rfl _ _ _) rfl ?_
  exact ⟨rfl, HP.out, CP.out⟩
set_option maxRecDepth 100000 in
set_option maxHeartbeats 4000000 in
theorem next_some_b (w : World) (g : Nat) (v0 v1 v2 v3 vk : Value) (h0 h1 h2 : Value) (B : Option Addr) (c : Nat) (x : Sp) (r : List Sp) (hb : w.heap[g]? = some (.cells #[v0, v1, v2, v3, h0, h1, h2, .slice B (r.length + 1) c, vk] 185 (0, 0))) (hr : RdK spanTy w B (r.length + 1) (x :: r)) (hn : r.length + 1 ≤ c ∧ c ≤ maxLen) (hB : ∀ a, B = some a → a.block ≠ g) :
    Calls Tryz.prog 200 #[.pointer (some ⟨g, 4, none⟩)] w fun e w' => e = .returned (.tuple #[]) ∧ ∃ B' c', w'.heap[g]? = some (.cells #[v0, v1, v2, v3, .int .i64 x.1, .int .i64 x.2.1, .int .i64 x.2.2, (.slice B' r.length c'), vk] 185 (0, 0)) ∧ RdK spanTy w' B' r.length r ∧ (r.length ≤ c' ∧ c' ≤ maxLen) ∧ (∀ a, B' = some a → ∃ b, B = some b ∧ a.block = b.block) ∧ Chg [g] w w' := by
  obtain ⟨gB, oB, eB, _⟩ := hr.line (by omega)
  subst eB
  have HR := Lib.hid hr
  have HN := Lib.hid hn
  have NB := Lib.hid (hB ⟨gB, oB, none⟩ rfl)
  obtain ⟨y0, y1, y2⟩ := spanCells hr (j := 0) (x := x) rfl
  rw [Nat.zero_mul, Nat.add_zero] at y0 y1 y2
  have HB := Lib.hid hb
  have Y := Lib.hid (show w.cell? ⟨gB, oB, none⟩ = some (.int .i64 x.1) ∧ w.cell? ⟨gB, oB + 1, none⟩ = some (.int .i64 x.2.1) ∧ w.cell? ⟨gB, oB + 2, none⟩ = some (.int .i64 x.2.2) from ⟨y0, y1, y2⟩)
  clear hb hr hn y0 y1 y2 hB
  have n0 : (((r.length + 1 : Nat) : Int) == 0) = false := by simp; omega
  have n1 : (0 : Int) < ((r.length + 1 : Nat) : Int) := by omega
  have n2 : (1 : Int) ≤ ((r.length + 1 : Nat) : Int) := by omega
  have n3 : ((r.length + 1 : Nat) : Int) ≤ (c : Int) := by have := HN.out; omega
  have n5 : (1 : Int) ≤ (r.length : Int) + 1 := by omega
  have n4 : r.length + 1 - 1 = r.length := by omega
  have HT : Hid (RdK spanTy w (if c = 1 then some ⟨gB, oB, none⟩ else some ⟨gB, oB + 3, none⟩) r.length r) := Lib.hid (by
    split
    · have := HN.out
      have e : r = [] := List.eq_nil_of_length_eq_zero (by omega)
      subst e
      exact RdK.nil _ _
    · have q := HR.out.part 1 r.length (by omega)
      simpa [RowTy.k, spanTy] using q)
  go_enter Tryz.func200, Tryz.ntmps200
  have z7 := cell_of HB.out 7
  simp only [List.getElem?_toArray, List.getElem?_cons_succ, List.getElem?_cons_zero] at z7
  go_upto_region 2 with fail
  clear z7
  refine wp_region_held_drew (S := fun _ => True) (by kernel_rfl) trivial (fun hHeld => ?_)
  have CD := Lib.hid (Chg.refl [g] w).drew
  replace HB := Lib.hid (show w.drew.heap[g]? = some _ from HB.out)
  replace Y := Lib.hid (show w.drew.cell? ⟨gB, oB, none⟩ = some (.int .i64 x.1) ∧ w.drew.cell? ⟨gB, oB + 1, none⟩ = some (.int .i64 x.2.1) ∧ w.drew.cell? ⟨gB, oB + 2, none⟩ = some (.int .i64 x.2.2) from Y.out)
  replace HT := Lib.hid (show RdK spanTy w.drew _ r.length r from HT.out.chg (Chg.refl [] w).drew (by simp))
  generalize w.drew = wd at *
  generalize hAD : (if c = 1 then some ⟨gB, oB, none⟩ else some ⟨gB, oB + 3, none⟩ : Option Addr) = AD at *
  have AB : Hid (∀ a, AD = some a → a.block = gB) := Lib.hid (by intro a ha; rw [← hAD] at ha; split at ha <;> cases ha <;> rfl)
  refine sy 0 12 rfl rfl ?_ (hS := trivial)
  try simp only [Act.put, sA, s0, s1]
  refine sy 1 13 rfl rfl ?_ (hS := trivial)
  try simp only [Act.put, sA, s0, s1]
  refine sy 2 14 rfl rfl ?_ (hS := trivial)
  try simp only [Act.put, sA, s0, s1]
  refine sy 3 15 rfl rfl ?_ (hS := trivial)
  try simp only [Act.put, sA, s0, s1]
  refine sy 4 16 rfl rfl ?_ (hS := trivial)
  try simp only [Act.put, sA, s0, s1]
  refine sy 8 20 rfl rfl ?_ (hS := trivial)
  try simp only [Act.put, sA, s0, s1]
  refine sy 9 21 rfl rfl ?_ (hS := trivial)
  try simp only [Act.put, sA, s0, s1]
  refine sy 10 22 rfl rfl ?_ (hS := trivial)
  try simp only [Act.put, sA, s0, s1]
  refine wpAnyH_ready (rs := [5, 11]) (by kernel_rfl) (by simp) ?_
  refine AllReadyH.cons rfl (fun K hK => ?_) (AllReadyH.cons rfl (fun K hK => ?_) AllReadyH.nil)
  · skip
    replace hK := Lib.hid hK
    have z7 := cell_of HB.out 7
    simp only [List.getElem?_toArray, List.getElem?_cons_succ, List.getElem?_cons_zero] at z7
    go_simp
    clear z7 hHeld
    refine hK.out _ _ trivial (fun hHeld => ?_)
    clear hK K
    try simp only [Act.put, sA, s0, s1]
    refine sy 6 18 rfl rfl ?_ (hS := trivial)
    try simp only [Act.put, sA, s0, s1]
    refine wpAnyH_ready (rs := [7, 11]) (by kernel_rfl) (by simp) ?_
    refine AllReadyH.cons rfl (fun K hK => ?_) (AllReadyH.cons rfl (fun K hK => ?_) AllReadyH.nil)
    · skip
      replace hK := Lib.hid hK
      obtain ⟨y0, y1, y2⟩ := Y.out
      go_simp
      clear y0 y1 y2 hHeld
      refine hK.out _ _ trivial (fun hHeld => ?_)
      clear hK K
      try simp only [Act.put, sA, s0, s1]
      refine wpAnyH_ready (rs := [11]) (by kernel_rfl) (by simp) ?_
      refine AllReadyH.cons rfl (fun K hK => ?_) AllReadyH.nil
      replace hK := Lib.hid hK
      have z7 := cell_of HB.out 7
      simp only [List.getElem?_toArray, List.getElem?_cons_succ, List.getElem?_cons_zero] at z7
      go_simp
      clear z7 hHeld
      refine hK.out _ _ trivial (fun hHeld => ?_)
      clear hK K
      try simp only [Act.put, sA, s0, s1]
      refine sy 12 24 rfl rfl ?_ (hS := trivial)
      try simp only [Act.put, sA, s0, s1]
      refine sy 13 25 rfl rfl ?_ (hS := trivial)
      try simp only [Act.put, sA, s0, s1]
      refine sy 14 26 rfl rfl ?_ (hS := trivial)
      try simp only [Act.put, sA, s0, s1]
      refine wpAnyH_ready (rs := [15]) (by kernel_rfl) (by simp) ?_
      refine AllReadyH.cons rfl (fun K hK => ?_) AllReadyH.nil
      replace hK := Lib.hid hK
      have z4 := cell_of HB.out 4
      have z5 := cell_of HB.out 5
      have z6 := cell_of HB.out 6
      have fz4 := free_of HB.out 4
      have fz5 := free_of HB.out 5
      have fz6 := free_of HB.out 6
      simp only [List.getElem?_toArray, List.getElem?_cons_succ, List.getElem?_cons_zero] at z4 z5 z6
      have p0 := heap_setCell_same wd g 4 _ _ (.int .i64 x.1) HB.out
      have p1 := heap_setCell_same (wd.setCell ⟨g, 4, none⟩ (.int .i64 x.1)) g 5 _ _ (.int .i64 x.2.1) p0
      have p2 := heap_setCell_same ((wd.setCell ⟨g, 4, none⟩ (.int .i64 x.1)).setCell ⟨g, 5, none⟩ (.int .i64 x.2.1)) g 6 _ _ (.int .i64 x.2.2) p1
      simp only [List.setIfInBounds_toArray, List.set_cons_zero, List.set_cons_succ] at p2
      have HP := Lib.hid p2
      clear p0 p1 p2
      go_simp
      clear hHeld z4 fz4 z5 fz5 z6 fz6
      refine hK.out _ _ trivial (fun hHeld => ?_)
      clear hK K
      try simp only [Act.put, sA, s0, s1]
      refine sy 16 27 rfl rfl ?_ (hS := trivial)
      try simp only [Act.put, sA, s0, s1]
      refine sy 17 28 rfl rfl ?_ (hS := trivial)
      try simp only [Act.put, sA, s0, s1]
      refine wpAnyH_ready (rs := [18]) (by kernel_rfl) (by simp) ?_
      refine AllReadyH.cons rfl (fun K hK => ?_) AllReadyH.nil
      replace hK := Lib.hid hK
      have z7 := cell_of HP.out 7
      have fz7 := free_of HP.out 7
      simp only [List.getElem?_toArray, List.getElem?_cons_succ, List.getElem?_cons_zero] at z7
      go_simp
      clear hHeld z7 fz7
      refine hK.out _ _ trivial (fun hHeld => ?_)
      clear hK K
      try simp only [Act.put, sA, s0, s1]
      refine wpAnyH_done (by kernel_rfl) ?_ _
      have HQ := heap_setCell_same _ g 7 _ _ (.slice AD r.length (c - 1)) HP.out
      simp only [List.setIfInBounds_toArray, List.set_cons_zero, List.set_cons_succ] at HQ
      have CQ := Lib.hid (((((Chg.refl [g] wd).setCell (p := ⟨g, 4, none⟩) (.inl (by simp)) (.int .i64 x.1)).setCell (p := ⟨g, 5, none⟩) (.inl (by simp)) (.int .i64 x.2.1)).setCell (p := ⟨g, 6, none⟩) (.inl (by simp)) (.int .i64 x.2.2)).setCell (p := ⟨g, 7, none⟩) (.inl (by simp)) (.slice AD r.length (c - 1)))
      have HQ2 := Lib.hid HQ
      clear HQ
      go_wp2
      go_end0
      exact ⟨rfl, AD, c - 1, HQ2.out, HT.out.chg CQ.out (fun a ha => by rw [AB.out a ha]; simpa using NB.out), by have := HN.out; omega, fun a ha => by (first | exact ⟨_, rfl, AB.out a ha⟩ | exact AB.out a ha | simpa using AB.out a ha), CD.out.trans CQ.out⟩
    · skip
      replace hK := Lib.hid hK
      have z7 := cell_of HB.out 7
      simp only [List.getElem?_toArray, List.getElem?_cons_succ, List.getElem?_cons_zero] at z7
      go_simp
      clear z7 hHeld
      refine hK.out _ _ trivial (fun hHeld => ?_)
      clear hK K
      try simp only [Act.put, sA, s0, s1]
      refine sy 12 24 rfl rfl ?_ (hS := trivial)
      try simp only [Act.put, sA, s0, s1]
      refine wpAnyH_ready (rs := [7]) (by kernel_rfl) (by simp) ?_
      refine AllReadyH.cons rfl (fun K hK => ?_) AllReadyH.nil
      replace hK := Lib.hid hK
      obtain ⟨y0, y1, y2⟩ := Y.out
      go_simp
      clear y0 y1 y2 hHeld
      refine hK.out _ _ trivial (fun hHeld => ?_)
      clear hK K
      try simp only [Act.put, sA, s0, s1]
      refine sy 13 25 rfl rfl ?_ (hS := trivial)
      try simp only [Act.put, sA, s0, s1]
      refine sy 14 26 rfl rfl ?_ (hS := trivial)
      try simp only [Act.put, sA, s0, s1]
      refine wpAnyH_ready (rs := [15]) (by kernel_rfl) (by simp) ?_
      refine AllReadyH.cons rfl (fun K hK => ?_) AllReadyH.nil
      replace hK := Lib.hid hK
      have z4 := cell_of HB.out 4
      have z5 := cell_of HB.out 5
      have z6 := cell_of HB.out 6
      have fz4 := free_of HB.out 4
      have fz5 := free_of HB.out 5
      have fz6 := free_of HB.out 6
      simp only [List.getElem?_toArray, List.getElem?_cons_succ, List.getElem?_cons_zero] at z4 z5 z6
      have p0 := heap_setCell_same wd g 4 _ _ (.int .i64 x.1) HB.out
      have p1 := heap_setCell_same (wd.setCell ⟨g, 4, none⟩ (.int .i64 x.1)) g 5 _ _ (.int .i64 x.2.1) p0
      have p2 := heap_setCell_same ((wd.setCell ⟨g, 4, none⟩ (.int .i64 x.1)).setCell ⟨g, 5, none⟩ (.int .i64 x.2.1)) g 6 _ _ (.int .i64 x.2.2) p1
      simp only [List.setIfInBounds_toArray, List.set_cons_zero, List.set_cons_succ] at p2
      have HP := Lib.hid p2
      clear p0 p1 p2
      go_simp
      clear hHeld z4 fz4 z5 fz5 z6 fz6
      refine hK.out _ _ trivial (fun hHeld => ?_)
      clear hK K
      try simp only [Act.put, sA, s0, s1]
      refine sy 16 27 rfl rfl ?_ (hS := trivial)
      try simp only [Act.put, sA, s0, s1]
      refine sy 17 28 rfl rfl ?_ (hS := trivial)
      try simp only [Act.put, sA, s0, s1]
      refine wpAnyH_ready (rs := [18]) (by kernel_rfl) (by simp) ?_
      refine AllReadyH.cons rfl (fun K hK => ?_) AllReadyH.nil
      replace hK := Lib.hid hK
      have z7 := cell_of HP.out 7
      have fz7 := free_of HP.out 7
      simp only [List.getElem?_toArray, List.getElem?_cons_succ, List.getElem?_cons_zero] at z7
      go_simp
      clear hHeld z7 fz7
      refine hK.out _ _ trivial (fun hHeld => ?_)
      clear hK K
      try simp only [Act.put, sA, s0, s1]
      refine wpAnyH_done (by kernel_rfl) ?_ _
      have HQ := heap_setCell_same _ g 7 _ _ (.slice AD r.length (c - 1)) HP.out
      simp only [List.setIfInBounds_toArray, List.set_cons_zero, List.set_cons_succ] at HQ
      have CQ := Lib.hid (((((Chg.refl [g] wd).setCell (p := ⟨g, 4, none⟩) (.inl (by simp)) (.int .i64 x.1)).setCell (p := ⟨g, 5, none⟩) (.inl (by simp)) (.int .i64 x.2.1)).setCell (p := ⟨g, 6, none⟩) (.inl (by simp)) (.int .i64 x.2.2)).setCell (p := ⟨g, 7, none⟩) (.inl (by simp)) (.slice AD r.length (c - 1)))
      have HQ2 := Lib.hid HQ
      clear HQ
      go_wp2
      go_end0
      exact ⟨rfl, AD, c - 1, HQ2.out, HT.out.chg CQ.out (fun a ha => by rw [AB.out a ha]; simpa using NB.out), by have := HN.out; omega, fun a ha => by (first | exact ⟨_, rfl, AB.out a ha⟩ | exact AB.out a ha | simpa using AB.out a ha), CD.out.trans CQ.out⟩
  · skip
    replace hK := Lib.hid hK
    have z7 := cell_of HB.out 7
    simp only [List.getElem?_toArray, List.getElem?_cons_succ, List.getElem?_cons_zero] at z7
    go_simp
    clear z7 hHeld
    refine hK.out _ _ trivial (fun hHeld => ?_)
    clear hK K
    try simp only [Act.put, sA, s0, s1]
    refine sy 12 24 rfl rfl ?_ (hS := trivial)
    try simp only [Act.put, sA, s0, s1]
    refine wpAnyH_ready (rs := [5]) (by kernel_rfl) (by simp) ?_
    refine AllReadyH.cons rfl (fun K hK => ?_) AllReadyH.nil
    replace hK := Lib.hid hK
    have z7 := cell_of HB.out 7
    simp only [List.getElem?_toArray, List.getElem?_cons_succ, List.getElem?_cons_zero] at z7
    go_simp
    clear z7 hHeld
    refine hK.out _ _ trivial (fun hHeld => ?_)
    clear hK K
    try simp only [Act.put, sA, s0, s1]
    refine sy 6 18 rfl rfl ?_ (hS := trivial)
    try simp only [Act.put, sA, s0, s1]
    refine wpAnyH_ready (rs := [7]) (by kernel_rfl) (by simp) ?_
    refine AllReadyH.cons rfl (fun K hK => ?_) AllReadyH.nil
    replace hK := Lib.hid hK
    obtain ⟨y0, y1, y2⟩ := Y.out
    go_simp
    clear y0 y1 y2 hHeld
    refine hK.out _ _ trivial (fun hHeld => ?_)
    clear hK K
    try simp only [Act.put, sA, s0, s1]
    refine sy 13 25 rfl rfl ?_ (hS := trivial)
    try simp only [Act.put, sA, s0, s1]
    refine sy 14 26 rfl rfl ?_ (hS := trivial)
    try simp only [Act.put, sA, s0, s1]
    refine wpAnyH_ready (rs := [15]) (by kernel_rfl) (by simp) ?_
    refine AllReadyH.cons rfl (fun K hK => ?_) AllReadyH.nil
    replace hK := Lib.hid hK
    have z4 := cell_of HB.out 4
    have z5 := cell_of HB.out 5
    have z6 := cell_of HB.out 6
    have fz4 := free_of HB.out 4
    have fz5 := free_of HB.out 5
    have fz6 := free_of HB.out 6
    simp only [List.getElem?_toArray, List.getElem?_cons_succ, List.getElem?_cons_zero] at z4 z5 z6
    have p0 := heap_setCell_same wd g 4 _ _ (.int .i64 x.1) HB.out
    have p1 := heap_setCell_same (wd.setCell ⟨g, 4, none⟩ (.int .i64 x.1)) g 5 _ _ (.int .i64 x.2.1) p0
    have p2 := heap_setCell_same ((wd.setCell ⟨g, 4, none⟩ (.int .i64 x.1)).setCell ⟨g, 5, none⟩ (.int .i64 x.2.1)) g 6 _ _ (.int .i64 x.2.2) p1
    simp only [List.setIfInBounds_toArray, List.set_cons_zero, List.set_cons_succ] at p2
    have HP := Lib.hid p2
    clear p0 p1 p2
    go_simp
    clear hHeld z4 fz4 z5 fz5 z6 fz6
    refine hK.out _ _ trivial (fun hHeld => ?_)
    clear hK K
    try simp only [Act.put, sA, s0, s1]
    refine sy 16 27 rfl rfl ?_ (hS := trivial)
    try simp only [Act.put, sA, s0, s1]
    refine sy 17 28 rfl rfl ?_ (hS := trivial)
    try simp only [Act.put, sA, s0, s1]
    refine wpAnyH_ready (rs := [18]) (by kernel_rfl) (by simp) ?_
    refine AllReadyH.cons rfl (fun K hK => ?_) AllReadyH.nil
    replace hK := Lib.hid hK
    have z7 := cell_of HP.out 7
    have fz7 := free_of HP.out 7
    simp only [List.getElem?_toArray, List.getElem?_cons_succ, List.getElem?_cons_zero] at z7
    go_simp
    clear hHeld z7 fz7
    refine hK.out _ _ trivial (fun hHeld => ?_)
    clear hK K
    try simp only [Act.put, sA, s0, s1]
    refine wpAnyH_done (by kernel_rfl) ?_ _
    have HQ := heap_setCell_same _ g 7 _ _ (.slice AD r.length (c - 1)) HP.out
    simp only [List.setIfInBounds_toArray, List.set_cons_zero, List.set_cons_succ] at HQ
    have CQ := Lib.hid (((((Chg.refl [g] wd).setCell (p := ⟨g, 4, none⟩) (.inl (by simp)) (.int .i64 x.1)).setCell (p := ⟨g, 5, none⟩) (.inl (by simp)) (.int .i64 x.2.1)).setCell (p := ⟨g, 6, none⟩) (.inl (by simp)) (.int .i64 x.2.2)).setCell (p := ⟨g, 7, none⟩) (.inl (by simp)) (.slice AD r.length (c - 1)))
    have HQ2 := Lib.hid HQ
    clear HQ
    go_wp2
    go_end0
    exact ⟨rfl, AD, c - 1, HQ2.out, HT.out.chg CQ.out (fun a ha => by rw [AB.out a ha]; simpa using NB.out), by have := HN.out; omega, fun a ha => by (first | exact ⟨_, rfl, AB.out a ha⟩ | exact AB.out a ha | simpa using AB.out a ha), CD.out.trans CQ.out⟩
end
section
open Go.RowKit Go.Lib
set_option linter.unusedSimpArgs false
set_option linter.unusedVariables false


set_option maxRecDepth 100000 in
set_option maxHeartbeats 4000000 in
theorem pass_b (w : World) (g : Nat) (v0 v1 v2 v3 vk : Value) (B : Option Addr) (c : Nat) (x : Sp) (r : List Sp) (tt : Int) (hto : 0 ≤ tt ∧ tt ≤ 2147483647) (hb : w.heap[g]? = some (.cells #[v0, v1, v2, v3, .int .i64 x.1, .int .i64 x.2.1, .int .i64 x.2.2, .slice B r.length c, vk] 185 (0, 0))) (hr : RdK spanTy w B r.length r) (hn : r.length ≤ c ∧ c ≤ maxLen) (hB : ∀ a, B = some a → a.block ≠ g) :
    Calls Tryz.prog 202 #[.pointer (some ⟨g, 4, none⟩), .int .i64 tt] w fun e w' => e = .returned (.tuple #[]) ∧ ∃ B' c', w'.heap[g]? = some (.cells #[v0, v1, v2, v3, .int .i64 (hdP (passP (x :: r) tt)).1, .int .i64 (hdP (passP (x :: r) tt)).2.1, .int .i64 (hdP (passP (x :: r) tt)).2.2, .slice B' (passP (x :: r) tt).tail.length c', vk] 185 (0, 0)) ∧ RdK spanTy w' B' (passP (x :: r) tt).tail.length (passP (x :: r) tt).tail ∧ ((passP (x :: r) tt).tail.length ≤ c' ∧ c' ≤ maxLen) ∧ (∀ a, B' = some a → ∃ b, B = some b ∧ a.block = b.block) ∧ Chg [g] w w' := by
  have HB := Lib.hid hb
  have HR := Lib.hid hr
  have HN := Lib.hid hn
  have NB := Lib.hid hB
  clear hb hr hn hB
  have e1 : IntKind.i64.wrap (tt + 1) = tt + 1 := IntWalk.i64_in _ (by omega)
  by_cases hlt : tt < x.2.2
  · have hp : passP (x :: r) tt = (x.1, tt + 1, x.2.2) :: r := by unfold passP; simp only; rw [if_pos hlt]
    rw [hp]
    simp only [hd_cons, List.tail_cons]
    have HLT := hlt
    clear hp
    go_enter Tryz.func202, Tryz.ntmps202
    have z4 := cell_of HB.out 4
    have z5 := cell_of HB.out 5
    have z6 := cell_of HB.out 6
    have z7 := cell_of HB.out 7
    have fz5 := free_of HB.out 5
    simp only [List.getElem?_toArray, List.getElem?_cons_succ, List.getElem?_cons_zero] at z4 z5 z6 z7
    have HQ := heap_setCell_same w g 5 _ _ (.int .i64 (tt + 1)) HB.out
    simp only [List.setIfInBounds_toArray, List.set_cons_zero, List.set_cons_succ] at HQ
    have HP := Lib.hid HQ
    have CP := Lib.hid ((Chg.refl [g] w).setCell (p := ⟨g, 5, none⟩) (.inl (by simp)) (.int .i64 (tt + 1)))
    clear HQ
    go_wp2
    refine bodyPost_ret (results_none rfl _ _ _) rfl ?_
    exact ⟨rfl, B, c, HP.out, HR.out.chg CP.out (fun a ha => by simpa using NB.out a ha), HN.out, fun a ha => ⟨a, ha, rfl⟩, CP.out⟩
  · have hp : passP (x :: r) tt = r := by unfold passP; simp only; rw [if_neg hlt]
    rw [hp]
    clear hp
    cases r with
    | nil =>
      go_enter Tryz.func202, Tryz.ntmps202
      have z4 := cell_of HB.out 4
      have z5 := cell_of HB.out 5
      have z6 := cell_of HB.out 6
      have z7 := cell_of HB.out 7
      simp only [List.getElem?_toArray, List.getElem?_cons_succ, List.getElem?_cons_zero] at z4 z5 z6 z7
      go_wp2_with fail
      clear z4 z5 z6 z7
      refine (next_none_b w g v0 v1 v2 v3 vk _ _ _ B c HB.out).mono ?_
      rintro e w' ⟨rfl, h1, h2⟩
      have HP := Lib.hid h1
      have CP := Lib.hid h2
      clear h1 h2
      go_wp2
      go_end0
      exact ⟨rfl, B, c, HP.out, RdK.nil _ _, ⟨Nat.zero_le _, HN.out.2⟩, fun a ha => ⟨a, ha, rfl⟩, CP.out⟩
    | cons y r2 =>
      go_enter Tryz.func202, Tryz.ntmps202
      have z4 := cell_of HB.out 4
      have z5 := cell_of HB.out 5
      have z6 := cell_of HB.out 6
      have z7 := cell_of HB.out 7
      simp only [List.getElem?_toArray, List.getElem?_cons_succ, List.getElem?_cons_zero] at z4 z5 z6 z7
      go_wp2_with fail
      clear z4 z5 z6 z7
      refine (next_some_b w g v0 v1 v2 v3 vk _ _ _ B c y r2 HB.out HR.out HN.out NB.out).mono ?_
      rintro e w' ⟨rfl, B2, c2, h1, h2, h3, h4, h5⟩
      have HP := Lib.hid h1
      have CP := Lib.hid h5
      have H2 := Lib.hid h2
      have H3 := Lib.hid h3
      have H4 := Lib.hid h4
      clear h1 h2 h3 h4 h5
      go_wp2
      go_end0
      exact ⟨rfl, B2, c2, HP.out, H2.out, H3.out, H4.out, CP.out⟩
end
section
open Go.RowKit Go.Lib
set_option linter.unusedSimpArgs false
set_option linter.unusedVariables false


set_option maxRecDepth 100000 in
set_option maxHeartbeats 4000000 in
theorem until_any (w : World) (x y : Sp) (hx : -2147483648 ≤ x.2.2 ∧ x.2.2 ≤ 2147483647) (hy : -2147483648 ≤ y.2.1 ∧ y.2.1 ≤ 2147483647) : Calls Tryz.prog 201 #[.agg #[.int .i64 x.1, .int .i64 x.2.1, .int .i64 x.2.2], .agg #[.int .i64 y.1, .int .i64 y.2.1, .int .i64 y.2.2]] w fun e w' => e = .returned (.agg #[.int .i64 (untilP x y).1, .int .i64 (untilP x y).2.1, .int .i64 (untilP x y).2.2]) ∧ Chg [] w w' := by
  have e1 : IntKind.i64.wrap (y.2.1 - 1) = y.2.1 - 1 := IntWalk.i64_in _ (by omega)
  unfold untilP
  by_cases h : x.1 = y.1
  · rw [if_pos h]
    have hq : ((x.1 == y.1) : Bool) = true := by simpa using h
    clear h
    have HM : Hid (∀ v : Int, v = min x.2.2 (y.2.1 - 1) → v = min x.2.2 (y.2.1 - 1)) := Lib.hid (fun _ h => h)
    go_enter Tryz.func201, Tryz.ntmps201
    go_wp2
    all_goals
      refine bodyPost_ret (v := .agg #[.int .i64 x.1, .int .i64 x.2.1, .int .i64 (min x.2.2 (y.2.1 - 1))]) (by simp [results, Tryz.results201, go_sem]; try omega) rfl ?_
      exact ⟨rfl, by repeat' (first | exact Chg.refl _ _ | apply Chg.alloc | (refine Chg.setCell ?_ (.inr (by simp)) _))⟩
  · rw [if_neg h]
    have hq : ((x.1 == y.1) : Bool) = false := by simpa using h
    clear h
    go_enter Tryz.func201, Tryz.ntmps201
    go_wp2
    refine bodyPost_ret (v := .agg #[.int .i64 x.1, .int .i64 x.2.1, .int .i64 x.2.2]) (by simp [results, Tryz.results201, go_sem]) rfl ?_
    exact ⟨rfl, by repeat' (first | exact Chg.refl _ _ | apply Chg.alloc | (refine Chg.setCell ?_ (.inr (by simp)) _))⟩
end
section
open Go.RowKit Go.Lib
set_option linter.unusedSimpArgs false
set_option linter.unusedVariables false


set_option maxRecDepth 100000 in
set_option maxHeartbeats 8000000 in
theorem step_both_lt (w : World) (g : Nat) (X : List Nat) (kf : Nat) (A : Option Addr) (c : Nat) (B : Option Addr) (d : Nat) (x y : Sp) (r r2 : List Sp) (e1 : x.1 = y.1) (e2 : x.2.1 = y.2.1) (hm : x.2.2 ≤ y.2.2) (h : SwQ w g X (x :: r) (y :: r2) kf A c B d) (hX : ∀ z ∈ X, z < w.heap.size) (HTO : Hid (0 ≤ x.2.2 ∧ x.2.2 ≤ 2147483647)) : Calls Tryz.prog 180 #[.pointer (some ⟨g, 0, none⟩)] w fun e w' => e = .returned (.tuple #[.agg #[.int .i64 x.1, .int .i64 x.2.1, .int .i64 x.2.2], .bool true, .bool true]) ∧ SwP w' g X (passP (x :: r) x.2.2) (passP (y :: r2) x.2.2) kf ∧ Chg [g] w w' := by
  have E1H := Lib.hid e1
  have E2H := Lib.hid e2
  have HMH := Lib.hid hm
  clear e1 e2 hm
  have H := Lib.hid h
  clear h
  have hmin : min x.2.2 y.2.2 = x.2.2 := by have := HMH.out; omega
  have HG : Hid (w.heap[g]? = some (.cells #[.int .i64 x.1, .int .i64 x.2.1, .int .i64 x.2.2, .slice A r.length c, .int .i64 y.1, .int .i64 y.2.1, .int .i64 y.2.2, .slice B r2.length d, .func (.func kf) #[] #[]] 185 (0, 0))) := Lib.hid (H.out.hg)
  obtain ⟨w1, hw1, c1, b1⟩ := news1 w (.cells #[.int .i64 0, .int .i64 0, .int .i64 0] 95)
  have W1 := Lib.hid hw1
  have C1 := Lib.hid c1
  have B1 := Lib.hid b1
  have L1 := Lib.hid (show w.heap.size < w1.heap.size from lt_of_heap b1)
  have G1 := Lib.hid (c1.at_ HG.out (by simp))
  have GL := Lib.hid (lt_of_heap HG.out)
  clear hw1 c1 b1
  go_enter Tryz.func180, Tryz.ntmps180
  go_upto_region 1 with fail
  rw [← W1.out]
  generalize hg0 : w.heap.size = g0 at *
  have z0 := cell_of G1.out 0
  have z1 := cell_of G1.out 1
  have z2 := cell_of G1.out 2
  have z4 := cell_of G1.out 4
  have z5 := cell_of G1.out 5
  have z6 := cell_of G1.out 6
  simp only [List.getElem?_toArray, List.getElem?_cons_succ, List.getElem?_cons_zero] at z0 z1 z2 z4 z5 z6
  refine wp_region_held_drew (S := fun w' => w'.cell? ⟨g, 0, none⟩ = some (.int .i64 x.1) ∧ w'.cell? ⟨g, 1, none⟩ = some (.int .i64 x.2.1) ∧ w'.cell? ⟨g, 2, none⟩ = some (.int .i64 x.2.2) ∧ w'.cell? ⟨g, 4, none⟩ = some (.int .i64 y.1) ∧ w'.cell? ⟨g, 5, none⟩ = some (.int .i64 y.2.1) ∧ w'.cell? ⟨g, 6, none⟩ = some (.int .i64 y.2.2)) (by kernel_rfl) ⟨z0, z1, z2, z4, z5, z6⟩ (fun hHeld => ?_)
  have CD := Lib.hid (Chg.refl [] w1).drew
  have HH := Lib.hid (fun (w' : World) (hc : Chg [] w1.drew w') => (⟨(CD.out.trans hc).cell z0 (by simp), (CD.out.trans hc).cell z1 (by simp), (CD.out.trans hc).cell z2 (by simp), (CD.out.trans hc).cell z4 (by simp), (CD.out.trans hc).cell z5 (by simp), (CD.out.trans hc).cell z6 (by simp)⟩ : w'.cell? ⟨g, 0, none⟩ = some (.int .i64 x.1) ∧ w'.cell? ⟨g, 1, none⟩ = some (.int .i64 x.2.1) ∧ w'.cell? ⟨g, 2, none⟩ = some (.int .i64 x.2.2) ∧ w'.cell? ⟨g, 4, none⟩ = some (.int .i64 y.1) ∧ w'.cell? ⟨g, 5, none⟩ = some (.int .i64 y.2.1) ∧ w'.cell? ⟨g, 6, none⟩ = some (.int .i64 y.2.2)))
  have CD2 := Lib.hid (C1.out.trans CD.out)
  replace B1 := Lib.hid (show w1.drew.heap[g0]? = _ from B1.out)
  replace L1 : Hid (g0 < w1.drew.heap.size) := Lib.hid (Nat.lt_of_lt_of_le L1.out CD.out.size)
  clear z0 z1 z2 z4 z5 z6
  generalize w1.drew = wd at *
  refine' join3 (F := fun (p q : Nat) (w' : World) => Hid (w'.heap[p]? = some (.cells #[.int .i64 x.1, .int .i64 x.2.1, .int .i64 x.2.2] 95 (0, 0))) ∧ Hid (w'.heap[q]? = some (.cells #[.int .i64 y.1, .int .i64 y.2.1, .int .i64 y.2.2] 95 (0, 0))) ∧ Hid (g0 < p ∧ g0 < q ∧ p ≠ q) ∧ Hid (Chg [] wd w')) (R := _) (fun JOIN => ?leaf) ?rest
  case leaf =>
    have hHeld := HH.out wd (Chg.refl [] wd)
    have C_wd := Lib.hid (Chg.refl [] wd)
    refine sy 0 7 rfl rfl ?_
    try simp only [Act.put, sA, s0, s1]
    refine sy 1 8 rfl rfl ?_
    try simp only [Act.put, sA, s0, s1]
    refine sy 2 9 rfl rfl ?_
    try simp only [Act.put, sA, s0, s1]
    refine sy 3 10 rfl rfl ?_
    try simp only [Act.put, sA, s0, s1]
    refine sy 4 11 rfl rfl ?_ (hy := by (intro w hSw; (try dsimp only at hSw); obtain ⟨q0, q1, q2, q3, q4, q5⟩ := hSw; go_simp; try with_reducible rfl))
    try simp only [Act.put, sA, s0, s1]
    refine sy 5 12 rfl rfl ?_
    try simp only [Act.put, sA, s0, s1]
    refine sy 6 13 rfl rfl ?_
    try simp only [Act.put, sA, s0, s1]
    refine sy 7 14 rfl rfl ?_
    try simp only [Act.put, sA, s0, s1]
    refine sy 8 15 rfl rfl ?_
    try simp only [Act.put, sA, s0, s1]
    refine sy 9 16 rfl rfl ?_ (hy := by (intro w hSw; (try dsimp only at hSw); obtain ⟨q0, q1, q2, q3, q4, q5⟩ := hSw; go_simp; try with_reducible rfl))
    try simp only [Act.put, sA, s0, s1]
    refine wpAnyH_ready (rs := [10, 11]) (by kernel_rfl) (by simp) ?_
    refine AllReadyH.cons rfl (fun K hK => ?_) (AllReadyH.cons rfl (fun K hK => ?_) AllReadyH.nil)
    · skip
      replace hK := Lib.hid hK
      go_simp
      obtain ⟨wx, hw, cn, bn⟩ := news1 wd (.cells #[.int .i64 0, .int .i64 0, .int .i64 0] 95)
      rw [← hw]
      have PB := Lib.hid bn
      have PL := Lib.hid (show wd.heap.size < wx.heap.size from lt_of_heap bn)
      have C_wx := Lib.hid (C_wd.out.trans cn)
      clear hw cn bn hHeld
      refine hK.out _ _ (HH.out wx C_wx.out) (fun hHeld => ?_)
      clear hK K
      try simp only [Act.put, sA, s0, s1]
      refine wpAnyH_ready (rs := [11]) (by kernel_rfl) (by simp) ?_
      refine AllReadyH.cons rfl (fun K hK => ?_) AllReadyH.nil
      replace hK := Lib.hid hK
      go_simp
      obtain ⟨wxy, hw, cn, bn⟩ := news1 wx (.cells #[.int .i64 0, .int .i64 0, .int .i64 0] 95)
      rw [← hw]
      have QB := Lib.hid bn
      have QL := Lib.hid (show wx.heap.size < wxy.heap.size from lt_of_heap bn)
      have C_wxy := Lib.hid (C_wx.out.trans cn)
      replace PB := Lib.hid (cn.at_ PB.out (by simp))
      clear hw cn bn hHeld
      refine hK.out _ _ (HH.out wxy C_wxy.out) (fun hHeld => ?_)
      clear hK K
      try simp only [Act.put, sA, s0, s1]
      refine wpAnyH_ready (rs := [12]) (by kernel_rfl) (by simp) ?_
      refine AllReadyH.cons rfl (fun K hK => ?_) AllReadyH.nil
      replace hK := Lib.hid hK
      have z0 := cell_of PB.out 0
      have z1 := cell_of PB.out 1
      have z2 := cell_of PB.out 2
      have fz0 := free_of PB.out 0
      have fz1 := free_of PB.out 1
      have fz2 := free_of PB.out 2
      simp only [List.getElem?_toArray, List.getElem?_cons_succ, List.getElem?_cons_zero] at z0 z1 z2
      have p0 := heap_setCell_same wxy (wd.heap.size) 0 _ _ (.int .i64 x.1) PB.out
      have p1 := heap_setCell_same ((wxy.setCell ⟨wd.heap.size, 0, none⟩ (.int .i64 x.1))) (wd.heap.size) 1 _ _ (.int .i64 x.2.1) p0
      have p2 := heap_setCell_same (((wxy.setCell ⟨wd.heap.size, 0, none⟩ (.int .i64 x.1)).setCell ⟨wd.heap.size, 1, none⟩ (.int .i64 x.2.1))) (wd.heap.size) 2 _ _ (.int .i64 x.2.2) p1
      simp only [List.setIfInBounds_toArray, List.set_cons_zero, List.set_cons_succ] at p2
      have NB := Lib.hid p2
      have C_wxys := Lib.hid (((C_wxy.out.setCell (p := ⟨wd.heap.size, 0, none⟩) (.inr (Nat.le_refl _)) (.int .i64 x.1)).setCell (p := ⟨wd.heap.size, 1, none⟩) (.inr (Nat.le_refl _)) (.int .i64 x.2.1)).setCell (p := ⟨wd.heap.size, 2, none⟩) (.inr (Nat.le_refl _)) (.int .i64 x.2.2))
      have OB := Lib.hid (((heap_setCell_other ((wxy.setCell ⟨wd.heap.size, 0, none⟩ (.int .i64 x.1)).setCell ⟨wd.heap.size, 1, none⟩ (.int .i64 x.2.1)) ⟨wd.heap.size, 2, none⟩ (wx.heap.size) (.int .i64 x.2.2) (by simp; have := PL.out; have := QL.out; omega)).trans ((heap_setCell_other (wxy.setCell ⟨wd.heap.size, 0, none⟩ (.int .i64 x.1)) ⟨wd.heap.size, 1, none⟩ (wx.heap.size) (.int .i64 x.2.1) (by simp; have := PL.out; have := QL.out; omega)).trans ((heap_setCell_other (wxy) ⟨wd.heap.size, 0, none⟩ (wx.heap.size) (.int .i64 x.1) (by simp; have := PL.out; have := QL.out; omega)).trans QB.out))))
      go_simp
      clear z0 z1 z2 fz0 fz1 fz2 p0 p1 p2 hHeld PB QB
      generalize (((wxy.setCell ⟨wd.heap.size, 0, none⟩ (.int .i64 x.1)).setCell ⟨wd.heap.size, 1, none⟩ (.int .i64 x.2.1)).setCell ⟨wd.heap.size, 2, none⟩ (.int .i64 x.2.2)) = wxys at *
      have PB := NB
      have QB := OB
      clear NB OB
      refine hK.out _ _ (HH.out wxys C_wxys.out) (fun hHeld => ?_)
      clear hK K
      try simp only [Act.put, sA, s0, s1]
      refine wpAnyH_ready (rs := [13]) (by kernel_rfl) (by simp) ?_
      refine AllReadyH.cons rfl (fun K hK => ?_) AllReadyH.nil
      replace hK := Lib.hid hK
      have z0 := cell_of QB.out 0
      have z1 := cell_of QB.out 1
      have z2 := cell_of QB.out 2
      have fz0 := free_of QB.out 0
      have fz1 := free_of QB.out 1
      have fz2 := free_of QB.out 2
      simp only [List.getElem?_toArray, List.getElem?_cons_succ, List.getElem?_cons_zero] at z0 z1 z2
      have p0 := heap_setCell_same wxys (wx.heap.size) 0 _ _ (.int .i64 y.1) QB.out
      have p1 := heap_setCell_same ((wxys.setCell ⟨wx.heap.size, 0, none⟩ (.int .i64 y.1))) (wx.heap.size) 1 _ _ (.int .i64 y.2.1) p0
      have p2 := heap_setCell_same (((wxys.setCell ⟨wx.heap.size, 0, none⟩ (.int .i64 y.1)).setCell ⟨wx.heap.size, 1, none⟩ (.int .i64 y.2.1))) (wx.heap.size) 2 _ _ (.int .i64 y.2.2) p1
      simp only [List.setIfInBounds_toArray, List.set_cons_zero, List.set_cons_succ] at p2
      have NB := Lib.hid p2
      have C_wxyss := Lib.hid (((C_wxys.out.setCell (p := ⟨wx.heap.size, 0, none⟩) (.inr (C_wx.out.size)) (.int .i64 y.1)).setCell (p := ⟨wx.heap.size, 1, none⟩) (.inr (C_wx.out.size)) (.int .i64 y.2.1)).setCell (p := ⟨wx.heap.size, 2, none⟩) (.inr (C_wx.out.size)) (.int .i64 y.2.2))
      have OB := Lib.hid (((heap_setCell_other ((wxys.setCell ⟨wx.heap.size, 0, none⟩ (.int .i64 y.1)).setCell ⟨wx.heap.size, 1, none⟩ (.int .i64 y.2.1)) ⟨wx.heap.size, 2, none⟩ (wd.heap.size) (.int .i64 y.2.2) (by simp; have := PL.out; have := QL.out; omega)).trans ((heap_setCell_other (wxys.setCell ⟨wx.heap.size, 0, none⟩ (.int .i64 y.1)) ⟨wx.heap.size, 1, none⟩ (wd.heap.size) (.int .i64 y.2.1) (by simp; have := PL.out; have := QL.out; omega)).trans ((heap_setCell_other (wxys) ⟨wx.heap.size, 0, none⟩ (wd.heap.size) (.int .i64 y.1) (by simp; have := PL.out; have := QL.out; omega)).trans PB.out))))
      go_simp
      clear z0 z1 z2 fz0 fz1 fz2 p0 p1 p2 hHeld QB PB
      generalize (((wxys.setCell ⟨wx.heap.size, 0, none⟩ (.int .i64 y.1)).setCell ⟨wx.heap.size, 1, none⟩ (.int .i64 y.2.1)).setCell ⟨wx.heap.size, 2, none⟩ (.int .i64 y.2.2)) = wxyss at *
      have QB := NB
      have PB := OB
      clear NB OB
      refine hK.out _ _ (HH.out wxyss C_wxyss.out) (fun hHeld => ?_)
      clear hK K
      try simp only [Act.put, sA, s0, s1]
      refine wpAnyH_done (by kernel_rfl) ?_ _
      have FACTS : Hid (wxyss.heap[wd.heap.size]? = some (.cells #[.int .i64 x.1, .int .i64 x.2.1, .int .i64 x.2.2] 95 (0, 0))) ∧ Hid (wxyss.heap[wx.heap.size]? = some (.cells #[.int .i64 y.1, .int .i64 y.2.1, .int .i64 y.2.2] 95 (0, 0))) ∧ Hid (g0 < wd.heap.size ∧ g0 < wx.heap.size ∧ wd.heap.size ≠ wx.heap.size) ∧ Hid (Chg [] wd wxyss) := ⟨PB, QB, Lib.hid (by have := PL.out; have := QL.out; have := L1.out; have := C_wx.out.size; refine ⟨?_, ?_, ?_⟩ <;> omega), C_wxyss⟩
      generalize wd.heap.size = p at FACTS ⊢
      generalize wx.heap.size = q at FACTS ⊢
      exact JOIN p q wxyss FACTS
    · skip
      replace hK := Lib.hid hK
      go_simp
      obtain ⟨wy, hw, cn, bn⟩ := news1 wd (.cells #[.int .i64 0, .int .i64 0, .int .i64 0] 95)
      rw [← hw]
      have QB := Lib.hid bn
      have QL := Lib.hid (show wd.heap.size < wy.heap.size from lt_of_heap bn)
      have C_wy := Lib.hid (C_wd.out.trans cn)
      clear hw cn bn hHeld
      refine hK.out _ _ (HH.out wy C_wy.out) (fun hHeld => ?_)
      clear hK K
      try simp only [Act.put, sA, s0, s1]
      refine wpAnyH_ready (rs := [10]) (by kernel_rfl) (by simp) ?_
      refine AllReadyH.cons rfl (fun K hK => ?_) AllReadyH.nil
      replace hK := Lib.hid hK
      go_simp
      obtain ⟨wyx, hw, cn, bn⟩ := news1 wy (.cells #[.int .i64 0, .int .i64 0, .int .i64 0] 95)
      rw [← hw]
      have PB := Lib.hid bn
      have PL := Lib.hid (show wy.heap.size < wyx.heap.size from lt_of_heap bn)
      have C_wyx := Lib.hid (C_wy.out.trans cn)
      replace QB := Lib.hid (cn.at_ QB.out (by simp))
      clear hw cn bn hHeld
      refine hK.out _ _ (HH.out wyx C_wyx.out) (fun hHeld => ?_)
      clear hK K
      try simp only [Act.put, sA, s0, s1]
      refine wpAnyH_ready (rs := [12]) (by kernel_rfl) (by simp) ?_
      refine AllReadyH.cons rfl (fun K hK => ?_) AllReadyH.nil
      replace hK := Lib.hid hK
      have z0 := cell_of PB.out 0
      have z1 := cell_of PB.out 1
      have z2 := cell_of PB.out 2
      have fz0 := free_of PB.out 0
      have fz1 := free_of PB.out 1
      have fz2 := free_of PB.out 2
      simp only [List.getElem?_toArray, List.getElem?_cons_succ, List.getElem?_cons_zero] at z0 z1 z2
      have p0 := heap_setCell_same wyx (wy.heap.size) 0 _ _ (.int .i64 x.1) PB.out
      have p1 := heap_setCell_same ((wyx.setCell ⟨wy.heap.size, 0, none⟩ (.int .i64 x.1))) (wy.heap.size) 1 _ _ (.int .i64 x.2.1) p0
      have p2 := heap_setCell_same (((wyx.setCell ⟨wy.heap.size, 0, none⟩ (.int .i64 x.1)).setCell ⟨wy.heap.size, 1, none⟩ (.int .i64 x.2.1))) (wy.heap.size) 2 _ _ (.int .i64 x.2.2) p1
      simp only [List.setIfInBounds_toArray, List.set_cons_zero, List.set_cons_succ] at p2
      have NB := Lib.hid p2
      have C_wyxs := Lib.hid (((C_wyx.out.setCell (p := ⟨wy.heap.size, 0, none⟩) (.inr (C_wy.out.size)) (.int .i64 x.1)).setCell (p := ⟨wy.heap.size, 1, none⟩) (.inr (C_wy.out.size)) (.int .i64 x.2.1)).setCell (p := ⟨wy.heap.size, 2, none⟩) (.inr (C_wy.out.size)) (.int .i64 x.2.2))
      have OB := Lib.hid (((heap_setCell_other ((wyx.setCell ⟨wy.heap.size, 0, none⟩ (.int .i64 x.1)).setCell ⟨wy.heap.size, 1, none⟩ (.int .i64 x.2.1)) ⟨wy.heap.size, 2, none⟩ (wd.heap.size) (.int .i64 x.2.2) (by simp; have := PL.out; have := QL.out; omega)).trans ((heap_setCell_other (wyx.setCell ⟨wy.heap.size, 0, none⟩ (.int .i64 x.1)) ⟨wy.heap.size, 1, none⟩ (wd.heap.size) (.int .i64 x.2.1) (by simp; have := PL.out; have := QL.out; omega)).trans ((heap_setCell_other (wyx) ⟨wy.heap.size, 0, none⟩ (wd.heap.size) (.int .i64 x.1) (by simp; have := PL.out; have := QL.out; omega)).trans QB.out))))
      go_simp
      clear z0 z1 z2 fz0 fz1 fz2 p0 p1 p2 hHeld PB QB
      generalize (((wyx.setCell ⟨wy.heap.size, 0, none⟩ (.int .i64 x.1)).setCell ⟨wy.heap.size, 1, none⟩ (.int .i64 x.2.1)).setCell ⟨wy.heap.size, 2, none⟩ (.int .i64 x.2.2)) = wyxs at *
      have PB := NB
      have QB := OB
      clear NB OB
      refine hK.out _ _ (HH.out wyxs C_wyxs.out) (fun hHeld => ?_)
      clear hK K
      try simp only [Act.put, sA, s0, s1]
      refine wpAnyH_ready (rs := [13]) (by kernel_rfl) (by simp) ?_
      refine AllReadyH.cons rfl (fun K hK => ?_) AllReadyH.nil
      replace hK := Lib.hid hK
      have z0 := cell_of QB.out 0
      have z1 := cell_of QB.out 1
      have z2 := cell_of QB.out 2
      have fz0 := free_of QB.out 0
      have fz1 := free_of QB.out 1
      have fz2 := free_of QB.out 2
      simp only [List.getElem?_toArray, List.getElem?_cons_succ, List.getElem?_cons_zero] at z0 z1 z2
      have p0 := heap_setCell_same wyxs (wd.heap.size) 0 _ _ (.int .i64 y.1) QB.out
      have p1 := heap_setCell_same ((wyxs.setCell ⟨wd.heap.size, 0, none⟩ (.int .i64 y.1))) (wd.heap.size) 1 _ _ (.int .i64 y.2.1) p0
      have p2 := heap_setCell_same (((wyxs.setCell ⟨wd.heap.size, 0, none⟩ (.int .i64 y.1)).setCell ⟨wd.heap.size, 1, none⟩ (.int .i64 y.2.1))) (wd.heap.size) 2 _ _ (.int .i64 y.2.2) p1
      simp only [List.setIfInBounds_toArray, List.set_cons_zero, List.set_cons_succ] at p2
      have NB := Lib.hid p2
      have C_wyxss := Lib.hid (((C_wyxs.out.setCell (p := ⟨wd.heap.size, 0, none⟩) (.inr (Nat.le_refl _)) (.int .i64 y.1)).setCell (p := ⟨wd.heap.size, 1, none⟩) (.inr (Nat.le_refl _)) (.int .i64 y.2.1)).setCell (p := ⟨wd.heap.size, 2, none⟩) (.inr (Nat.le_refl _)) (.int .i64 y.2.2))
      have OB := Lib.hid (((heap_setCell_other ((wyxs.setCell ⟨wd.heap.size, 0, none⟩ (.int .i64 y.1)).setCell ⟨wd.heap.size, 1, none⟩ (.int .i64 y.2.1)) ⟨wd.heap.size, 2, none⟩ (wy.heap.size) (.int .i64 y.2.2) (by simp; have := PL.out; have := QL.out; omega)).trans ((heap_setCell_other (wyxs.setCell ⟨wd.heap.size, 0, none⟩ (.int .i64 y.1)) ⟨wd.heap.size, 1, none⟩ (wy.heap.size) (.int .i64 y.2.1) (by simp; have := PL.out; have := QL.out; omega)).trans ((heap_setCell_other (wyxs) ⟨wd.heap.size, 0, none⟩ (wy.heap.size) (.int .i64 y.1) (by simp; have := PL.out; have := QL.out; omega)).trans PB.out))))
      go_simp
      clear z0 z1 z2 fz0 fz1 fz2 p0 p1 p2 hHeld QB PB
      generalize (((wyxs.setCell ⟨wd.heap.size, 0, none⟩ (.int .i64 y.1)).setCell ⟨wd.heap.size, 1, none⟩ (.int .i64 y.2.1)).setCell ⟨wd.heap.size, 2, none⟩ (.int .i64 y.2.2)) = wyxss at *
      have QB := NB
      have PB := OB
      clear NB OB
      refine hK.out _ _ (HH.out wyxss C_wyxss.out) (fun hHeld => ?_)
      clear hK K
      try simp only [Act.put, sA, s0, s1]
      refine wpAnyH_done (by kernel_rfl) ?_ _
      have FACTS : Hid (wyxss.heap[wy.heap.size]? = some (.cells #[.int .i64 x.1, .int .i64 x.2.1, .int .i64 x.2.2] 95 (0, 0))) ∧ Hid (wyxss.heap[wd.heap.size]? = some (.cells #[.int .i64 y.1, .int .i64 y.2.1, .int .i64 y.2.2] 95 (0, 0))) ∧ Hid (g0 < wy.heap.size ∧ g0 < wd.heap.size ∧ wy.heap.size ≠ wd.heap.size) ∧ Hid (Chg [] wd wyxss) := ⟨PB, QB, Lib.hid (by have := PL.out; have := QL.out; have := L1.out; have := C_wy.out.size; refine ⟨?_, ?_, ?_⟩ <;> omega), C_wyxss⟩
      generalize wy.heap.size = p at FACTS ⊢
      generalize wd.heap.size = q at FACTS ⊢
      exact JOIN p q wyxss FACTS
  case rest =>
    rintro p q w2 ⟨PB, QB, PQ, C2⟩
    clear HH
    have R2 := Lib.hid (C2.out.at_ B1.out (by simp))
    have CW := Lib.hid (CD2.out.trans C2.out)
    replace H := Lib.hid (H.out.chg CW.out (by simp) (by simp))
    clear G1 B1 CD2 C2 CD HG
    have x0 := cell_of PB.out 0
    have x1 := cell_of PB.out 1
    have x2 := cell_of PB.out 2
    simp only [List.getElem?_toArray, List.getElem?_cons_succ, List.getElem?_cons_zero] at x0 x1 x2
    have y0 := cell_of QB.out 0
    have y1 := cell_of QB.out 1
    have y2 := cell_of QB.out 2
    simp only [List.getElem?_toArray, List.getElem?_cons_succ, List.getElem?_cons_zero] at y0 y1 y2
    have e1 := E1H.out
    have e2 := E2H.out
    have hm := HMH.out
    have f1 : ¬ x.1 < y.1 := by omega
    have f2 : ¬ y.1 < x.1 := by omega
    have f3 : ((x.1 == y.1) : Bool) = true := by simpa using e1
    have f4 : ((y.1 == x.1) : Bool) = true := by simpa using e1.symm
    have f5 : x.2.1 ≤ y.2.1 := by omega
    have f6 : y.2.1 ≤ x.2.1 := by omega
    clear e1 e2
    have z0 := cell_of R2.out 0
    have z1 := cell_of R2.out 1
    have z2 := cell_of R2.out 2
    have fz0 := free_of R2.out 0
    have fz1 := free_of R2.out 1
    have fz2 := free_of R2.out 2
    simp only [List.getElem?_toArray, List.getElem?_cons_succ, List.getElem?_cons_zero] at z0 z1 z2
    have p0 := heap_setCell_same w2 g0 0 _ _ (.int .i64 x.1) R2.out
    have p1 := heap_setCell_same ((w2.setCell ⟨g0, 0, none⟩ (.int .i64 x.1))) g0 1 _ _ (.int .i64 x.2.1) p0
    have p2 := heap_setCell_same (((w2.setCell ⟨g0, 0, none⟩ (.int .i64 x.1)).setCell ⟨g0, 1, none⟩ (.int .i64 x.2.1))) g0 2 _ _ (.int .i64 x.2.2) p1
    simp only [List.setIfInBounds_toArray, List.set_cons_zero, List.set_cons_succ] at p2
    have RB := Lib.hid p2
    have CS := Lib.hid ((((Chg.refl [g0] w2).setCell (p := ⟨g0, 0, none⟩) (.inl (by simp)) (.int .i64 x.1)).setCell (p := ⟨g0, 1, none⟩) (.inl (by simp)) (.int .i64 x.2.1)).setCell (p := ⟨g0, 2, none⟩) (.inl (by simp)) (.int .i64 x.2.2))
    clear p0 p1 p2
    go_upto_region 10 with fail
    generalize (((w2.setCell ⟨g0, 0, none⟩ (.int .i64 x.1)).setCell ⟨g0, 1, none⟩ (.int .i64 x.2.1)).setCell ⟨g0, 2, none⟩ (.int .i64 x.2.2)) = w3 at *
    replace CW := Lib.hid (CW.out.trans' CS.out (fun z hz => by simp at hz; subst hz; exact .inr (Nat.le_of_eq hg0)))
    have NG : Hid (g0 ∉ [g]) := Lib.hid (by simp; have := GL.out; omega)
    have NG2 : Hid (g ∉ [g0] ∧ ∀ z ∈ X, z ∉ [g0]) := Lib.hid ⟨by simp; have := GL.out; omega, fun z hz => by have := hX z hz; simp; omega⟩
    replace H := Lib.hid (H.out.chg CS.out NG2.out.1 NG2.out.2)
    clear CS
    have CG := Lib.hid (CW.out.mono (S' := [g]) (by simp))
    clear CW
    clear z0 z1 z2 fz0 fz1 fz2
    have z2 := cell_of RB.out 2
    simp only [List.getElem?_toArray, List.getElem?_cons_succ, List.getElem?_cons_zero] at z2
    refine wp_region_held_drew (S := fun w' => w'.cell? ⟨g0, 2, none⟩ = some (.int .i64 x.2.2)) (by kernel_rfl) z2 (fun hHeld => ?_)
    have CD := Lib.hid (Chg.refl [] w3).drew
    replace H := Lib.hid (H.out.chg CD.out (by simp) (by simp))
    replace RB := Lib.hid (CD.out.at_ RB.out (by simp))
    replace CG := Lib.hid (CG.out.trans (CD.out.mono (by simp)))
    clear CD z2
    generalize w3.drew = wd10 at *
    refine sy 0 79 rfl rfl ?_
    try simp only [Act.put, sA, s0, s1]
    refine sy 1 80 rfl rfl ?_
    try simp only [Act.put, sA, s0, s1]
    refine sy 2 81 rfl rfl ?_
    try simp only [Act.put, sA, s0, s1]
    refine sy 3 82 rfl rfl ?_
    try simp only [Act.put, sA, s0, s1]
    refine sy 4 83 rfl rfl ?_ (hy := by (intro w hSw; (try dsimp only at hSw); have q := hSw; go_simp; try with_reducible rfl))
    try simp only [Act.put, sA, s0, s1]
    refine wpAnyH_ready (rs := [5]) (by kernel_rfl) (by simp) ?_
    refine AllReadyH.cons rfl (fun K hK => ?_) AllReadyH.nil
    replace hK := Lib.hid hK
    go_simp
    refine (pass_a wd10 g _ _ _ _ _ A c x r _ HTO.out H.out.hg H.out.ra H.out.ca (fun a ha e => H.out.gx (e ▸ H.out.na.resolve_left (by simp) a ha))).mono ?_
    rintro e wp10 ⟨rfl, A', c', h1, h2, h3, h4, h5⟩
    have HN : Hid (SwQ wp10 g X (passP (x :: r) _) _ kf A' c' _ _) := Lib.hid ⟨h1, h2, h3, .inr (fun a ha => by obtain ⟨b, hb, e⟩ := h4 a ha; rw [e]; exact H.out.na.resolve_left (by simp) b hb), H.out.rbchg h5, H.out.cb, H.out.nb, H.out.gx⟩
    replace RB := Lib.hid (h5.at_ RB.out NG.out)
    replace CG := Lib.hid (CG.out.trans h5)
    clear h1 h2 h3 h4 h5 hHeld H
    have H := HN
    clear HN
    refine hK.out _ _ (by have z := cell_of RB.out 2; simp only [List.getElem?_toArray, List.getElem?_cons_succ, List.getElem?_cons_zero] at z; exact z) (fun hHeld => ?_)
    clear hK K
    try simp only [Act.put, sA, s0, s1]
    refine wpAnyH_done (by kernel_rfl) ?_ _
    clear hHeld
    go_upto_region 12 with fail
    have z2 := cell_of RB.out 2
    simp only [List.getElem?_toArray, List.getElem?_cons_succ, List.getElem?_cons_zero] at z2
    refine wp_region_held_drew (S := fun w' => w'.cell? ⟨g0, 2, none⟩ = some (.int .i64 x.2.2)) (by kernel_rfl) z2 (fun hHeld => ?_)
    have CD := Lib.hid (Chg.refl [] wp10).drew
    replace H := Lib.hid (H.out.chg CD.out (by simp) (by simp))
    replace RB := Lib.hid (CD.out.at_ RB.out (by simp))
    replace CG := Lib.hid (CG.out.trans (CD.out.mono (by simp)))
    clear CD z2
    generalize wp10.drew = wd12 at *
    refine sy 0 86 rfl rfl ?_
    try simp only [Act.put, sA, s0, s1]
    refine sy 1 87 rfl rfl ?_
    try simp only [Act.put, sA, s0, s1]
    refine sy 2 88 rfl rfl ?_
    try simp only [Act.put, sA, s0, s1]
    refine sy 3 89 rfl rfl ?_
    try simp only [Act.put, sA, s0, s1]
    refine sy 4 90 rfl rfl ?_ (hy := by (intro w hSw; (try dsimp only at hSw); have q := hSw; go_simp; try with_reducible rfl))
    try simp only [Act.put, sA, s0, s1]
    refine wpAnyH_ready (rs := [5]) (by kernel_rfl) (by simp) ?_
    refine AllReadyH.cons rfl (fun K hK => ?_) AllReadyH.nil
    replace hK := Lib.hid hK
    go_simp
    refine (pass_b wd12 g _ _ _ _ _ B d y r2 _ HTO.out H.out.hg H.out.rb H.out.cb (fun a ha e => H.out.gx (e ▸ H.out.nb.resolve_left (by simp) a ha))).mono ?_
    rintro e wp12 ⟨rfl, B', d', h1, h2, h3, h4, h5⟩
    have HN : Hid (SwQ wp12 g X _ (passP (y :: r2) _) kf _ _ B' d') := Lib.hid ⟨h1, H.out.rachg h5, H.out.ca, H.out.na, h2, h3, .inr (fun a ha => by obtain ⟨b, hb, e⟩ := h4 a ha; rw [e]; exact H.out.nb.resolve_left (by simp) b hb), H.out.gx⟩
    replace RB := Lib.hid (h5.at_ RB.out NG.out)
    replace CG := Lib.hid (CG.out.trans h5)
    clear h1 h2 h3 h4 h5 hHeld H
    have H := HN
    clear HN
    refine hK.out _ _ (by have z := cell_of RB.out 2; simp only [List.getElem?_toArray, List.getElem?_cons_succ, List.getElem?_cons_zero] at z; exact z) (fun hHeld => ?_)
    clear hK K
    try simp only [Act.put, sA, s0, s1]
    refine wpAnyH_done (by kernel_rfl) ?_ _
    clear hHeld
    have z0 := cell_of RB.out 0
    have z1 := cell_of RB.out 1
    have z2 := cell_of RB.out 2
    have fz0 := free_of RB.out 0
    have fz1 := free_of RB.out 1
    have fz2 := free_of RB.out 2
    simp only [List.getElem?_toArray, List.getElem?_cons_succ, List.getElem?_cons_zero] at z0 z1 z2
    have p0 := heap_setCell_same wp12 g0 0 _ _ (.int .i64 x.1) RB.out
    have p1 := heap_setCell_same ((wp12.setCell ⟨g0, 0, none⟩ (.int .i64 x.1))) g0 1 _ _ (.int .i64 x.2.1) p0
    have p2 := heap_setCell_same (((wp12.setCell ⟨g0, 0, none⟩ (.int .i64 x.1)).setCell ⟨g0, 1, none⟩ (.int .i64 x.2.1))) g0 2 _ _ (.int .i64 x.2.2) p1
    simp only [List.setIfInBounds_toArray, List.set_cons_zero, List.set_cons_succ] at p2
    have RF := Lib.hid p2
    have CF := Lib.hid ((((Chg.refl [g0] wp12).setCell (p := ⟨g0, 0, none⟩) (.inl (by simp)) (.int .i64 x.1)).setCell (p := ⟨g0, 1, none⟩) (.inl (by simp)) (.int .i64 x.2.1)).setCell (p := ⟨g0, 2, none⟩) (.inl (by simp)) (.int .i64 x.2.2))
    clear p0 p1 p2
    go_wp2
    generalize (((wp12.setCell ⟨g0, 0, none⟩ (.int .i64 x.1)).setCell ⟨g0, 1, none⟩ (.int .i64 x.2.1)).setCell ⟨g0, 2, none⟩ (.int .i64 x.2.2)) = wf at *
    clear z0 z1 z2 fz0 fz1 fz2
    have z0 := cell_of RF.out 0
    have z1 := cell_of RF.out 1
    have z2 := cell_of RF.out 2
    simp only [List.getElem?_toArray, List.getElem?_cons_succ, List.getElem?_cons_zero] at z0 z1 z2
    refine bodyPost_ret (v := .tuple #[.agg #[.int .i64 x.1, .int .i64 x.2.1, .int .i64 x.2.2], .bool true, .bool true]) (by simp [results, Tryz.results180, go_sem, z0, z1, z2]) rfl ?_
    exact ⟨rfl, ⟨_, _, _, _, H.out.chg CF.out NG2.out.1 NG2.out.2⟩, CG.out.trans' CF.out (fun z hz => by simp at hz; subst hz; exact .inr (Nat.le_of_eq hg0))⟩
set_option maxRecDepth 100000 in
set_option maxHeartbeats 8000000 in
theorem step_both_ge (w : World) (g : Nat) (X : List Nat) (kf : Nat) (A : Option Addr) (c : Nat) (B : Option Addr) (d : Nat) (x y : Sp) (r r2 : List Sp) (e1 : x.1 = y.1) (e2 : x.2.1 = y.2.1) (hm : ¬ x.2.2 ≤ y.2.2) (h : SwQ w g X (x :: r) (y :: r2) kf A c B d) (hX : ∀ z ∈ X, z < w.heap.size) (HTO : Hid (0 ≤ y.2.2 ∧ y.2.2 ≤ 2147483647)) : Calls Tryz.prog 180 #[.pointer (some ⟨g, 0, none⟩)] w fun e w' => e = .returned (.tuple #[.agg #[.int .i64 x.1, .int .i64 x.2.1, .int .i64 y.2.2], .bool true, .bool true]) ∧ SwP w' g X (passP (x :: r) y.2.2) (passP (y :: r2) y.2.2) kf ∧ Chg [g] w w' := by
  have E1H := Lib.hid e1
  have E2H := Lib.hid e2
  have HMH := Lib.hid hm
  clear e1 e2 hm
  have H := Lib.hid h
  clear h
  have hmin : min x.2.2 y.2.2 = y.2.2 := by have := HMH.out; omega
  have HG : Hid (w.heap[g]? = some (.cells #[.int .i64 x.1, .int .i64 x.2.1, .int .i64 x.2.2, .slice A r.length c, .int .i64 y.1, .int .i64 y.2.1, .int .i64 y.2.2, .slice B r2.length d, .func (.func kf) #[] #[]] 185 (0, 0))) := Lib.hid (H.out.hg)
  obtain ⟨w1, hw1, c1, b1⟩ := news1 w (.cells #[.int .i64 0, .int .i64 0, .int .i64 0] 95)
  have W1 := Lib.hid hw1
  have C1 := Lib.hid c1
  have B1 := Lib.hid b1
  have L1 := Lib.hid (show w.heap.size < w1.heap.size from lt_of_heap b1)
  have G1 := Lib.hid (c1.at_ HG.out (by simp))
  have GL := Lib.hid (lt_of_heap HG.out)
  clear hw1 c1 b1
  go_enter Tryz.func180, Tryz.ntmps180
  go_upto_region 1 with fail
  rw [← W1.out]
  generalize hg0 : w.heap.size = g0 at *
  have z0 := cell_of G1.out 0
  have z1 := cell_of G1.out 1
  have z2 := cell_of G1.out 2
  have z4 := cell_of G1.out 4
  have z5 := cell_of G1.out 5
  have z6 := cell_of G1.out 6
  simp only [List.getElem?_toArray, List.getElem?_cons_succ, List.getElem?_cons_zero] at z0 z1 z2 z4 z5 z6
  refine wp_region_held_drew (S := fun w' => w'.cell? ⟨g, 0, none⟩ = some (.int .i64 x.1) ∧ w'.cell? ⟨g, 1, none⟩ = some (.int .i64 x.2.1) ∧ w'.cell? ⟨g, 2, none⟩ = some (.int .i64 x.2.2) ∧ w'.cell? ⟨g, 4, none⟩ = some (.int .i64 y.1) ∧ w'.cell? ⟨g, 5, none⟩ = some (.int .i64 y.2.1) ∧ w'.cell? ⟨g, 6, none⟩ = some (.int .i64 y.2.2)) (by kernel_rfl) ⟨z0, z1, z2, z4, z5, z6⟩ (fun hHeld => ?_)
  have CD := Lib.hid (Chg.refl [] w1).drew
  have HH := Lib.hid (fun (w' : World) (hc : Chg [] w1.drew w') => (⟨(CD.out.trans hc).cell z0 (by simp), (CD.out.trans hc).cell z1 (by simp), (CD.out.trans hc).cell z2 (by simp), (CD.out.trans hc).cell z4 (by simp), (CD.out.trans hc).cell z5 (by simp), (CD.out.trans hc).cell z6 (by simp)⟩ : w'.cell? ⟨g, 0, none⟩ = some (.int .i64 x.1) ∧ w'.cell? ⟨g, 1, none⟩ = some (.int .i64 x.2.1) ∧ w'.cell? ⟨g, 2, none⟩ = some (.int .i64 x.2.2) ∧ w'.cell? ⟨g, 4, none⟩ = some (.int .i64 y.1) ∧ w'.cell? ⟨g, 5, none⟩ = some (.int .i64 y.2.1) ∧ w'.cell? ⟨g, 6, none⟩ = some (.int .i64 y.2.2)))
  have CD2 := Lib.hid (C1.out.trans CD.out)
  replace B1 := Lib.hid (show w1.drew.heap[g0]? = _ from B1.out)
  replace L1 : Hid (g0 < w1.drew.heap.size) := Lib.hid (Nat.lt_of_lt_of_le L1.out CD.out.size)
  clear z0 z1 z2 z4 z5 z6
  generalize w1.drew = wd at *
  refine' join3 (F := fun (p q : Nat) (w' : World) => Hid (w'.heap[p]? = some (.cells #[.int .i64 x.1, .int .i64 x.2.1, .int .i64 x.2.2] 95 (0, 0))) ∧ Hid (w'.heap[q]? = some (.cells #[.int .i64 y.1, .int .i64 y.2.1, .int .i64 y.2.2] 95 (0, 0))) ∧ Hid (g0 < p ∧ g0 < q ∧ p ≠ q) ∧ Hid (Chg [] wd w')) (R := _) (fun JOIN => ?leaf) ?rest
  case leaf =>
    have hHeld := HH.out wd (Chg.refl [] wd)
    have C_wd := Lib.hid (Chg.refl [] wd)
    refine sy 0 7 rfl rfl ?_
    try simp only [Act.put, sA, s0, s1]
    refine sy 1 8 rfl rfl ?_
    try simp only [Act.put, sA, s0, s1]
    refine sy 2 9 rfl rfl ?_
    try simp only [Act.put, sA, s0, s1]
    refine sy 3 10 rfl rfl ?_
    try simp only [Act.put, sA, s0, s1]
    refine sy 4 11 rfl rfl ?_ (hy := by (intro w hSw; (try dsimp only at hSw); obtain ⟨q0, q1, q2, q3, q4, q5⟩ := hSw; go_simp; try with_reducible rfl))
    try simp only [Act.put, sA, s0, s1]
    refine sy 5 12 rfl rfl ?_
    try simp only [Act.put, sA, s0, s1]
    refine sy 6 13 rfl rfl ?_
    try simp only [Act.put, sA, s0, s1]
    refine sy 7 14 rfl rfl ?_
    try simp only [Act.put, sA, s0, s1]
    refine sy 8 15 rfl rfl ?_
    try simp only [Act.put, sA, s0, s1]
    refine sy 9 16 rfl rfl ?_ (hy := by (intro w hSw; (try dsimp only at hSw); obtain ⟨q0, q1, q2, q3, q4, q5⟩ := hSw; go_simp; try with_reducible rfl))
    try simp only [Act.put, sA, s0, s1]
    refine wpAnyH_ready (rs := [10, 11]) (by kernel_rfl) (by simp) ?_
    refine AllReadyH.cons rfl (fun K hK => ?_) (AllReadyH.cons rfl (fun K hK => ?_) AllReadyH.nil)
    · skip
      replace hK := Lib.hid hK
      go_simp
      obtain ⟨wx, hw, cn, bn⟩ := news1 wd (.cells #[.int .i64 0, .int .i64 0, .int .i64 0] 95)
      rw [← hw]
      have PB := Lib.hid bn
      have PL := Lib.hid (show wd.heap.size < wx.heap.size from lt_of_heap bn)
      have C_wx := Lib.hid (C_wd.out.trans cn)
      clear hw cn bn hHeld
      refine hK.out _ _ (HH.out wx C_wx.out) (fun hHeld => ?_)
      clear hK K
      try simp only [Act.put, sA, s0, s1]
      refine wpAnyH_ready (rs := [11]) (by kernel_rfl) (by simp) ?_
      refine AllReadyH.cons rfl (fun K hK => ?_) AllReadyH.nil
      replace hK := Lib.hid hK
      go_simp
      obtain ⟨wxy, hw, cn, bn⟩ := news1 wx (.cells #[.int .i64 0, .int .i64 0, .int .i64 0] 95)
      rw [← hw]
      have QB := Lib.hid bn
      have QL := Lib.hid (show wx.heap.size < wxy.heap.size from lt_of_heap bn)
      have C_wxy := Lib.hid (C_wx.out.trans cn)
      replace PB := Lib.hid (cn.at_ PB.out (by simp))
      clear hw cn bn hHeld
      refine hK.out _ _ (HH.out wxy C_wxy.out) (fun hHeld => ?_)
      clear hK K
      try simp only [Act.put, sA, s0, s1]
      refine wpAnyH_ready (rs := [12]) (by kernel_rfl) (by simp) ?_
      refine AllReadyH.cons rfl (fun K hK => ?_) AllReadyH.nil
      replace hK := Lib.hid hK
      have z0 := cell_of PB.out 0
      have z1 := cell_of PB.out 1
      have z2 := cell_of PB.out 2
      have fz0 := free_of PB.out 0
      have fz1 := free_of PB.out 1
      have fz2 := free_of PB.out 2
      simp only [List.getElem?_toArray, List.getElem?_cons_succ, List.getElem?_cons_zero] at z0 z1 z2
      have p0 := heap_setCell_same wxy (wd.heap.size) 0 _ _ (.int .i64 x.1) PB.out
      have p1 := heap_setCell_same ((wxy.setCell ⟨wd.heap.size, 0, none⟩ (.int .i64 x.1))) (wd.heap.size) 1 _ _ (.int .i64 x.2.1) p0
      have p2 := heap_setCell_same (((wxy.setCell ⟨wd.heap.size, 0, none⟩ (.int .i64 x.1)).setCell ⟨wd.heap.size, 1, none⟩ (.int .i64 x.2.1))) (wd.heap.size) 2 _ _ (.int .i64 x.2.2) p1
      simp only [List.setIfInBounds_toArray, List.set_cons_zero, List.set_cons_succ] at p2
      have NB := Lib.hid p2
      have C_wxys := Lib.hid (((C_wxy.out.setCell (p := ⟨wd.heap.size, 0, none⟩) (.inr (Nat.le_refl _)) (.int .i64 x.1)).setCell (p := ⟨wd.heap.size, 1, none⟩) (.inr (Nat.le_refl _)) (.int .i64 x.2.1)).setCell (p := ⟨wd.heap.size, 2, none⟩) (.inr (Nat.le_refl _)) (.int .i64 x.2.2))
      have OB := Lib.hid (((heap_setCell_other ((wxy.setCell ⟨wd.heap.size, 0, none⟩ (.int .i64 x.1)).setCell ⟨wd.heap.size, 1, none⟩ (.int .i64 x.2.1)) ⟨wd.heap.size, 2, none⟩ (wx.heap.size) (.int .i64 x.2.2) (by simp; have := PL.out; have := QL.out; omega)).trans ((heap_setCell_other (wxy.setCell ⟨wd.heap.size, 0, none⟩ (.int .i64 x.1)) ⟨wd.heap.size, 1, none⟩ (wx.heap.size) (.int .i64 x.2.1) (by simp; have := PL.out; have := QL.out; omega)).trans ((heap_setCell_other (wxy) ⟨wd.heap.size, 0, none⟩ (wx.heap.size) (.int .i64 x.1) (by simp; have := PL.out; have := QL.out; omega)).trans QB.out))))
      go_simp
      clear z0 z1 z2 fz0 fz1 fz2 p0 p1 p2 hHeld PB QB
      generalize (((wxy.setCell ⟨wd.heap.size, 0, none⟩ (.int .i64 x.1)).setCell ⟨wd.heap.size, 1, none⟩ (.int .i64 x.2.1)).setCell ⟨wd.heap.size, 2, none⟩ (.int .i64 x.2.2)) = wxys at *
      have PB := NB
      have QB := OB
      clear NB OB
      refine hK.out _ _ (HH.out wxys C_wxys.out) (fun hHeld => ?_)
      clear hK K
      try simp only [Act.put, sA, s0, s1]
      refine wpAnyH_ready (rs := [13]) (by kernel_rfl) (by simp) ?_
      refine AllReadyH.cons rfl (fun K hK => ?_) AllReadyH.nil
      replace hK := Lib.hid hK
      have z0 := cell_of QB.out 0
      have z1 := cell_of QB.out 1
      have z2 := cell_of QB.out 2
      have fz0 := free_of QB.out 0
      have fz1 := free_of QB.out 1
      have fz2 := free_of QB.out 2
      simp only [List.getElem?_toArray, List.getElem?_cons_succ, List.getElem?_cons_zero] at z0 z1 z2
      have p0 := heap_setCell_same wxys (wx.heap.size) 0 _ _ (.int .i64 y.1) QB.out
      have p1 := heap_setCell_same ((wxys.setCell ⟨wx.heap.size, 0, none⟩ (.int .i64 y.1))) (wx.heap.size) 1 _ _ (.int .i64 y.2.1) p0
      have p2 := heap_setCell_same (((wxys.setCell ⟨wx.heap.size, 0, none⟩ (.int .i64 y.1)).setCell ⟨wx.heap.size, 1, none⟩ (.int .i64 y.2.1))) (wx.heap.size) 2 _ _ (.int .i64 y.2.2) p1
      simp only [List.setIfInBounds_toArray, List.set_cons_zero, List.set_cons_succ] at p2
      have NB := Lib.hid p2
      have C_wxyss := Lib.hid (((C_wxys.out.setCell (p := ⟨wx.heap.size, 0, none⟩) (.inr (C_wx.out.size)) (.int .i64 y.1)).setCell (p := ⟨wx.heap.size, 1, none⟩) (.inr (C_wx.out.size)) (.int .i64 y.2.1)).setCell (p := ⟨wx.heap.size, 2, none⟩) (.inr (C_wx.out.size)) (.int .i64 y.2.2))
      have OB := Lib.hid (((heap_setCell_other ((wxys.setCell ⟨wx.heap.size, 0, none⟩ (.int .i64 y.1)).setCell ⟨wx.heap.size, 1, none⟩ (.int .i64 y.2.1)) ⟨wx.heap.size, 2, none⟩ (wd.heap.size) (.int .i64 y.2.2) (by simp; have := PL.out; have := QL.out; omega)).trans ((heap_setCell_other (wxys.setCell ⟨wx.heap.size, 0, none⟩ (.int .i64 y.1)) ⟨wx.heap.size, 1, none⟩ (wd.heap.size) (.int .i64 y.2.1) (by simp; have := PL.out; have := QL.out; omega)).trans ((heap_setCell_other (wxys) ⟨wx.heap.size, 0, none⟩ (wd.heap.size) (.int .i64 y.1) (by simp; have := PL.out; have := QL.out; omega)).trans PB.out))))
      go_simp
      clear z0 z1 z2 fz0 fz1 fz2 p0 p1 p2 hHeld QB PB
      generalize (((wxys.setCell ⟨wx.heap.size, 0, none⟩ (.int .i64 y.1)).setCell ⟨wx.heap.size, 1, none⟩ (.int .i64 y.2.1)).setCell ⟨wx.heap.size, 2, none⟩ (.int .i64 y.2.2)) = wxyss at *
      have QB := NB
      have PB := OB
      clear NB OB
      refine hK.out _ _ (HH.out wxyss C_wxyss.out) (fun hHeld => ?_)
      clear hK K
      try simp only [Act.put, sA, s0, s1]
      refine wpAnyH_done (by kernel_rfl) ?_ _
      have FACTS : Hid (wxyss.heap[wd.heap.size]? = some (.cells #[.int .i64 x.1, .int .i64 x.2.1, .int .i64 x.2.2] 95 (0, 0))) ∧ Hid (wxyss.heap[wx.heap.size]? = some (.cells #[.int .i64 y.1, .int .i64 y.2.1, .int .i64 y.2.2] 95 (0, 0))) ∧ Hid (g0 < wd.heap.size ∧ g0 < wx.heap.size ∧ wd.heap.size ≠ wx.heap.size) ∧ Hid (Chg [] wd wxyss) := ⟨PB, QB, Lib.hid (by have := PL.out; have := QL.out; have := L1.out; have := C_wx.out.size; refine ⟨?_, ?_, ?_⟩ <;> omega), C_wxyss⟩
      generalize wd.heap.size = p at FACTS ⊢
      generalize wx.heap.size = q at FACTS ⊢
      exact JOIN p q wxyss FACTS
    · skip
      replace hK := Lib.hid hK
      go_simp
      obtain ⟨wy, hw, cn, bn⟩ := news1 wd (.cells #[.int .i64 0, .int .i64 0, .int .i64 0] 95)
      rw [← hw]
      have QB := Lib.hid bn
      have QL := Lib.hid (show wd.heap.size < wy.heap.size from lt_of_heap bn)
      have C_wy := Lib.hid (C_wd.out.trans cn)
      clear hw cn bn hHeld
      refine hK.out _ _ (HH.out wy C_wy.out) (fun hHeld => ?_)
      clear hK K
      try simp only [Act.put, sA, s0, s1]
      refine wpAnyH_ready (rs := [10]) (by kernel_rfl) (by simp) ?_
      refine AllReadyH.cons rfl (fun K hK => ?_) AllReadyH.nil
      replace hK := Lib.hid hK
      go_simp
      obtain ⟨wyx, hw, cn, bn⟩ := news1 wy (.cells #[.int .i64 0, .int .i64 0, .int .i64 0] 95)
      rw [← hw]
      have PB := Lib.hid bn
      have PL := Lib.hid (show wy.heap.size < wyx.heap.size from lt_of_heap bn)
      have C_wyx := Lib.hid (C_wy.out.trans cn)
      replace QB := Lib.hid (cn.at_ QB.out (by simp))
      clear hw cn bn hHeld
      refine hK.out _ _ (HH.out wyx C_wyx.out) (fun hHeld => ?_)
      clear hK K
      try simp only [Act.put, sA, s0, s1]
      refine wpAnyH_ready (rs := [12]) (by kernel_rfl) (by simp) ?_
      refine AllReadyH.cons rfl (fun K hK => ?_) AllReadyH.nil
      replace hK := Lib.hid hK
      have z0 := cell_of PB.out 0
      have z1 := cell_of PB.out 1
      have z2 := cell_of PB.out 2
      have fz0 := free_of PB.out 0
      have fz1 := free_of PB.out 1
      have fz2 := free_of PB.out 2
      simp only [List.getElem?_toArray, List.getElem?_cons_succ, List.getElem?_cons_zero] at z0 z1 z2
      have p0 := heap_setCell_same wyx (wy.heap.size) 0 _ _ (.int .i64 x.1) PB.out
      have p1 := heap_setCell_same ((wyx.setCell ⟨wy.heap.size, 0, none⟩ (.int .i64 x.1))) (wy.heap.size) 1 _ _ (.int .i64 x.2.1) p0
      have p2 := heap_setCell_same (((wyx.setCell ⟨wy.heap.size, 0, none⟩ (.int .i64 x.1)).setCell ⟨wy.heap.size, 1, none⟩ (.int .i64 x.2.1))) (wy.heap.size) 2 _ _ (.int .i64 x.2.2) p1
      simp only [List.setIfInBounds_toArray, List.set_cons_zero, List.set_cons_succ] at p2
      have NB := Lib.hid p2
      have C_wyxs := Lib.hid (((C_wyx.out.setCell (p := ⟨wy.heap.size, 0, none⟩) (.inr (C_wy.out.size)) (.int .i64 x.1)).setCell (p := ⟨wy.heap.size, 1, none⟩) (.inr (C_wy.out.size)) (.int .i64 x.2.1)).setCell (p := ⟨wy.heap.size, 2, none⟩) (.inr (C_wy.out.size)) (.int .i64 x.2.2))
      have OB := Lib.hid (((heap_setCell_other ((wyx.setCell ⟨wy.heap.size, 0, none⟩ (.int .i64 x.1)).setCell ⟨wy.heap.size, 1, none⟩ (.int .i64 x.2.1)) ⟨wy.heap.size, 2, none⟩ (wd.heap.size) (.int .i64 x.2.2) (by simp; have := PL.out; have := QL.out; omega)).trans ((heap_setCell_other (wyx.setCell ⟨wy.heap.size, 0, none⟩ (.int .i64 x.1)) ⟨wy.heap.size, 1, none⟩ (wd.heap.size) (.int .i64 x.2.1) (by simp; have := PL.out; have := QL.out; omega)).trans ((heap_setCell_other (wyx) ⟨wy.heap.size, 0, none⟩ (wd.heap.size) (.int .i64 x.1) (by simp; have := PL.out; have := QL.out; omega)).trans QB.out))))
      go_simp
      clear z0 z1 z2 fz0 fz1 fz2 p0 p1 p2 hHeld PB QB
      generalize (((wyx.setCell ⟨wy.heap.size, 0, none⟩ (.int .i64 x.1)).setCell ⟨wy.heap.size, 1, none⟩ (.int .i64 x.2.1)).setCell ⟨wy.heap.size, 2, none⟩ (.int .i64 x.2.2)) = wyxs at *
      have PB := NB
      have QB := OB
      clear NB OB
      refine hK.out _ _ (HH.out wyxs C_wyxs.out) (fun hHeld => ?_)
      clear hK K
      try simp only [Act.put, sA, s0, s1]
      refine wpAnyH_ready (rs := [13]) (by kernel_rfl) (by simp) ?_
      refine AllReadyH.cons rfl (fun K hK => ?_) AllReadyH.nil
      replace hK := Lib.hid hK
      have z0 := cell_of QB.out 0
      have z1 := cell_of QB.out 1
      have z2 := cell_of QB.out 2
      have fz0 := free_of QB.out 0
      have fz1 := free_of QB.out 1
      have fz2 := free_of QB.out 2
      simp only [List.getElem?_toArray, List.getElem?_cons_succ, List.getElem?_cons_zero] at z0 z1 z2
      have p0 := heap_setCell_same wyxs (wd.heap.size) 0 _ _ (.int .i64 y.1) QB.out
      have p1 := heap_setCell_same ((wyxs.setCell ⟨wd.heap.size, 0, none⟩ (.int .i64 y.1))) (wd.heap.size) 1 _ _ (.int .i64 y.2.1) p0
      have p2 := heap_setCell_same (((wyxs.setCell ⟨wd.heap.size, 0, none⟩ (.int .i64 y.1)).setCell ⟨wd.heap.size, 1, none⟩ (.int .i64 y.2.1))) (wd.heap.size) 2 _ _ (.int .i64 y.2.2) p1
      simp only [List.setIfInBounds_toArray, List.set_cons_zero, List.set_cons_succ] at p2
      have NB := Lib.hid p2
      have C_wyxss := Lib.hid (((C_wyxs.out.setCell (p := ⟨wd.heap.size, 0, none⟩) (.inr (Nat.le_refl _)) (.int .i64 y.1)).setCell (p := ⟨wd.heap.size, 1, none⟩) (.inr (Nat.le_refl _)) (.int .i64 y.2.1)).setCell (p := ⟨wd.heap.size, 2, none⟩) (.inr (Nat.le_refl _)) (.int .i64 y.2.2))
      have OB := Lib.hid (((heap_setCell_other ((wyxs.setCell ⟨wd.heap.size, 0, none⟩ (.int .i64 y.1)).setCell ⟨wd.heap.size, 1, none⟩ (.int .i64 y.2.1)) ⟨wd.heap.size, 2, none⟩ (wy.heap.size) (.int .i64 y.2.2) (by simp; have := PL.out; have := QL.out; omega)).trans ((heap_setCell_other (wyxs.setCell ⟨wd.heap.size, 0, none⟩ (.int .i64 y.1)) ⟨wd.heap.size, 1, none⟩ (wy.heap.size) (.int .i64 y.2.1) (by simp; have := PL.out; have := QL.out; omega)).trans ((heap_setCell_other (wyxs) ⟨wd.heap.size, 0, none⟩ (wy.heap.size) (.int .i64 y.1) (by simp; have := PL.out; have := QL.out; omega)).trans PB.out))))
      go_simp
      clear z0 z1 z2 fz0 fz1 fz2 p0 p1 p2 hHeld QB PB
      generalize (((wyxs.setCell ⟨wd.heap.size, 0, none⟩ (.int .i64 y.1)).setCell ⟨wd.heap.size, 1, none⟩ (.int .i64 y.2.1)).setCell ⟨wd.heap.size, 2, none⟩ (.int .i64 y.2.2)) = wyxss at *
      have QB := NB
      have PB := OB
      clear NB OB
      refine hK.out _ _ (HH.out wyxss C_wyxss.out) (fun hHeld => ?_)
      clear hK K
      try simp only [Act.put, sA, s0, s1]
      refine wpAnyH_done (by kernel_rfl) ?_ _
      have FACTS : Hid (wyxss.heap[wy.heap.size]? = some (.cells #[.int .i64 x.1, .int .i64 x.2.1, .int .i64 x.2.2] 95 (0, 0))) ∧ Hid (wyxss.heap[wd.heap.size]? = some (.cells #[.int .i64 y.1, .int .i64 y.2.1, .int .i64 y.2.2] 95 (0, 0))) ∧ Hid (g0 < wy.heap.size ∧ g0 < wd.heap.size ∧ wy.heap.size ≠ wd.heap.size) ∧ Hid (Chg [] wd wyxss) := ⟨PB, QB, Lib.hid (by have := PL.out; have := QL.out; have := L1.out; have := C_wy.out.size; refine ⟨?_, ?_, ?_⟩ <;> omega), C_wyxss⟩
      generalize wy.heap.size = p at FACTS ⊢
      generalize wd.heap.size = q at FACTS ⊢
      exact JOIN p q wyxss FACTS
  case rest =>
    rintro p q w2 ⟨PB, QB, PQ, C2⟩
    clear HH
    have R2 := Lib.hid (C2.out.at_ B1.out (by simp))
    have CW := Lib.hid (CD2.out.trans C2.out)
    replace H := Lib.hid (H.out.chg CW.out (by simp) (by simp))
    clear G1 B1 CD2 C2 CD HG
    have x0 := cell_of PB.out 0
    have x1 := cell_of PB.out 1
    have x2 := cell_of PB.out 2
    simp only [List.getElem?_toArray, List.getElem?_cons_succ, List.getElem?_cons_zero] at x0 x1 x2
    have y0 := cell_of QB.out 0
    have y1 := cell_of QB.out 1
    have y2 := cell_of QB.out 2
    simp only [List.getElem?_toArray, List.getElem?_cons_succ, List.getElem?_cons_zero] at y0 y1 y2
    have e1 := E1H.out
    have e2 := E2H.out
    have hm := HMH.out
    have f1 : ¬ x.1 < y.1 := by omega
    have f2 : ¬ y.1 < x.1 := by omega
    have f3 : ((x.1 == y.1) : Bool) = true := by simpa using e1
    have f4 : ((y.1 == x.1) : Bool) = true := by simpa using e1.symm
    have f5 : x.2.1 ≤ y.2.1 := by omega
    have f6 : y.2.1 ≤ x.2.1 := by omega
    clear e1 e2
    have z0 := cell_of R2.out 0
    have z1 := cell_of R2.out 1
    have z2 := cell_of R2.out 2
    have fz0 := free_of R2.out 0
    have fz1 := free_of R2.out 1
    have fz2 := free_of R2.out 2
    simp only [List.getElem?_toArray, List.getElem?_cons_succ, List.getElem?_cons_zero] at z0 z1 z2
    have p0 := heap_setCell_same w2 g0 0 _ _ (.int .i64 x.1) R2.out
    have p1 := heap_setCell_same ((w2.setCell ⟨g0, 0, none⟩ (.int .i64 x.1))) g0 1 _ _ (.int .i64 x.2.1) p0
    have p2 := heap_setCell_same (((w2.setCell ⟨g0, 0, none⟩ (.int .i64 x.1)).setCell ⟨g0, 1, none⟩ (.int .i64 x.2.1))) g0 2 _ _ (.int .i64 y.2.2) p1
    simp only [List.setIfInBounds_toArray, List.set_cons_zero, List.set_cons_succ] at p2
    have RB := Lib.hid p2
    have CS := Lib.hid ((((Chg.refl [g0] w2).setCell (p := ⟨g0, 0, none⟩) (.inl (by simp)) (.int .i64 x.1)).setCell (p := ⟨g0, 1, none⟩) (.inl (by simp)) (.int .i64 x.2.1)).setCell (p := ⟨g0, 2, none⟩) (.inl (by simp)) (.int .i64 y.2.2))
    clear p0 p1 p2
    go_upto_region 10 with fail
    generalize (((w2.setCell ⟨g0, 0, none⟩ (.int .i64 x.1)).setCell ⟨g0, 1, none⟩ (.int .i64 x.2.1)).setCell ⟨g0, 2, none⟩ (.int .i64 y.2.2)) = w3 at *
    replace CW := Lib.hid (CW.out.trans' CS.out (fun z hz => by simp at hz; subst hz; exact .inr (Nat.le_of_eq hg0)))
    have NG : Hid (g0 ∉ [g]) := Lib.hid (by simp; have := GL.out; omega)
    have NG2 : Hid (g ∉ [g0] ∧ ∀ z ∈ X, z ∉ [g0]) := Lib.hid ⟨by simp; have := GL.out; omega, fun z hz => by have := hX z hz; simp; omega⟩
    replace H := Lib.hid (H.out.chg CS.out NG2.out.1 NG2.out.2)
    clear CS
    have CG := Lib.hid (CW.out.mono (S' := [g]) (by simp))
    clear CW
    clear z0 z1 z2 fz0 fz1 fz2
    have z2 := cell_of RB.out 2
    simp only [List.getElem?_toArray, List.getElem?_cons_succ, List.getElem?_cons_zero] at z2
    refine wp_region_held_drew (S := fun w' => w'.cell? ⟨g0, 2, none⟩ = some (.int .i64 y.2.2)) (by kernel_rfl) z2 (fun hHeld => ?_)
    have CD := Lib.hid (Chg.refl [] w3).drew
    replace H := Lib.hid (H.out.chg CD.out (by simp) (by simp))
    replace RB := Lib.hid (CD.out.at_ RB.out (by simp))
    replace CG := Lib.hid (CG.out.trans (CD.out.mono (by simp)))
    clear CD z2
    generalize w3.drew = wd10 at *
    refine sy 0 79 rfl rfl ?_
    try simp only [Act.put, sA, s0, s1]
    refine sy 1 80 rfl rfl ?_
    try simp only [Act.put, sA, s0, s1]
    refine sy 2 81 rfl rfl ?_
    try simp only [Act.put, sA, s0, s1]
    refine sy 3 82 rfl rfl ?_
    try simp only [Act.put, sA, s0, s1]
    refine sy 4 83 rfl rfl ?_ (hy := by (intro w hSw; (try dsimp only at hSw); have q := hSw; go_simp; try with_reducible rfl))
    try simp only [Act.put, sA, s0, s1]
    refine wpAnyH_ready (rs := [5]) (by kernel_rfl) (by simp) ?_
    refine AllReadyH.cons rfl (fun K hK => ?_) AllReadyH.nil
    replace hK := Lib.hid hK
    go_simp
    refine (pass_a wd10 g _ _ _ _ _ A c x r _ HTO.out H.out.hg H.out.ra H.out.ca (fun a ha e => H.out.gx (e ▸ H.out.na.resolve_left (by simp) a ha))).mono ?_
    rintro e wp10 ⟨rfl, A', c', h1, h2, h3, h4, h5⟩
    have HN : Hid (SwQ wp10 g X (passP (x :: r) _) _ kf A' c' _ _) := Lib.hid ⟨h1, h2, h3, .inr (fun a ha => by obtain ⟨b, hb, e⟩ := h4 a ha; rw [e]; exact H.out.na.resolve_left (by simp) b hb), H.out.rbchg h5, H.out.cb, H.out.nb, H.out.gx⟩
    replace RB := Lib.hid (h5.at_ RB.out NG.out)
    replace CG := Lib.hid (CG.out.trans h5)
    clear h1 h2 h3 h4 h5 hHeld H
    have H := HN
    clear HN
    refine hK.out _ _ (by have z := cell_of RB.out 2; simp only [List.getElem?_toArray, List.getElem?_cons_succ, List.getElem?_cons_zero] at z; exact z) (fun hHeld => ?_)
    clear hK K
    try simp only [Act.put, sA, s0, s1]
    refine wpAnyH_done (by kernel_rfl) ?_ _
    clear hHeld
    go_upto_region 12 with fail
    have z2 := cell_of RB.out 2
    simp only [List.getElem?_toArray, List.getElem?_cons_succ, List.getElem?_cons_zero] at z2
    refine wp_region_held_drew (S := fun w' => w'.cell? ⟨g0, 2, none⟩ = some (.int .i64 y.2.2)) (by kernel_rfl) z2 (fun hHeld => ?_)
    have CD := Lib.hid (Chg.refl [] wp10).drew
    replace H := Lib.hid (H.out.chg CD.out (by simp) (by simp))
    replace RB := Lib.hid (CD.out.at_ RB.out (by simp))
    replace CG := Lib.hid (CG.out.trans (CD.out.mono (by simp)))
    clear CD z2
    generalize wp10.drew = wd12 at *
    refine sy 0 86 rfl rfl ?_
    try simp only [Act.put, sA, s0, s1]
    refine sy 1 87 rfl rfl ?_
    try simp only [Act.put, sA, s0, s1]
    refine sy 2 88 rfl rfl ?_
    try simp only [Act.put, sA, s0, s1]
    refine sy 3 89 rfl rfl ?_
    try simp only [Act.put, sA, s0, s1]
    refine sy 4 90 rfl rfl ?_ (hy := by (intro w hSw; (try dsimp only at hSw); have q := hSw; go_simp; try with_reducible rfl))
    try simp only [Act.put, sA, s0, s1]
    refine wpAnyH_ready (rs := [5]) (by kernel_rfl) (by simp) ?_
    refine AllReadyH.cons rfl (fun K hK => ?_) AllReadyH.nil
    replace hK := Lib.hid hK
    go_simp
    refine (pass_b wd12 g _ _ _ _ _ B d y r2 _ HTO.out H.out.hg H.out.rb H.out.cb (fun a ha e => H.out.gx (e ▸ H.out.nb.resolve_left (by simp) a ha))).mono ?_
    rintro e wp12 ⟨rfl, B', d', h1, h2, h3, h4, h5⟩
    have HN : Hid (SwQ wp12 g X _ (passP (y :: r2) _) kf _ _ B' d') := Lib.hid ⟨h1, H.out.rachg h5, H.out.ca, H.out.na, h2, h3, .inr (fun a ha => by obtain ⟨b, hb, e⟩ := h4 a ha; rw [e]; exact H.out.nb.resolve_left (by simp) b hb), H.out.gx⟩
    replace RB := Lib.hid (h5.at_ RB.out NG.out)
    replace CG := Lib.hid (CG.out.trans h5)
    clear h1 h2 h3 h4 h5 hHeld H
    have H := HN
    clear HN
    refine hK.out _ _ (by have z := cell_of RB.out 2; simp only [List.getElem?_toArray, List.getElem?_cons_succ, List.getElem?_cons_zero] at z; exact z) (fun hHeld => ?_)
    clear hK K
    try simp only [Act.put, sA, s0, s1]
    refine wpAnyH_done (by kernel_rfl) ?_ _
    clear hHeld
    have z0 := cell_of RB.out 0
    have z1 := cell_of RB.out 1
    have z2 := cell_of RB.out 2
    have fz0 := free_of RB.out 0
    have fz1 := free_of RB.out 1
    have fz2 := free_of RB.out 2
    simp only [List.getElem?_toArray, List.getElem?_cons_succ, List.getElem?_cons_zero] at z0 z1 z2
    have p0 := heap_setCell_same wp12 g0 0 _ _ (.int .i64 x.1) RB.out
    have p1 := heap_setCell_same ((wp12.setCell ⟨g0, 0, none⟩ (.int .i64 x.1))) g0 1 _ _ (.int .i64 x.2.1) p0
    have p2 := heap_setCell_same (((wp12.setCell ⟨g0, 0, none⟩ (.int .i64 x.1)).setCell ⟨g0, 1, none⟩ (.int .i64 x.2.1))) g0 2 _ _ (.int .i64 y.2.2) p1
    simp only [List.setIfInBounds_toArray, List.set_cons_zero, List.set_cons_succ] at p2
    have RF := Lib.hid p2
    have CF := Lib.hid ((((Chg.refl [g0] wp12).setCell (p := ⟨g0, 0, none⟩) (.inl (by simp)) (.int .i64 x.1)).setCell (p := ⟨g0, 1, none⟩) (.inl (by simp)) (.int .i64 x.2.1)).setCell (p := ⟨g0, 2, none⟩) (.inl (by simp)) (.int .i64 y.2.2))
    clear p0 p1 p2
    go_wp2
    generalize (((wp12.setCell ⟨g0, 0, none⟩ (.int .i64 x.1)).setCell ⟨g0, 1, none⟩ (.int .i64 x.2.1)).setCell ⟨g0, 2, none⟩ (.int .i64 y.2.2)) = wf at *
    clear z0 z1 z2 fz0 fz1 fz2
    have z0 := cell_of RF.out 0
    have z1 := cell_of RF.out 1
    have z2 := cell_of RF.out 2
    simp only [List.getElem?_toArray, List.getElem?_cons_succ, List.getElem?_cons_zero] at z0 z1 z2
    refine bodyPost_ret (v := .tuple #[.agg #[.int .i64 x.1, .int .i64 x.2.1, .int .i64 y.2.2], .bool true, .bool true]) (by simp [results, Tryz.results180, go_sem, z0, z1, z2]) rfl ?_
    exact ⟨rfl, ⟨_, _, _, _, H.out.chg CF.out NG2.out.1 NG2.out.2⟩, CG.out.trans' CF.out (fun z hz => by simp at hz; subst hz; exact .inr (Nat.le_of_eq hg0))⟩
end
end Go.Proofs.YtfdaclifapfmdaaGreatDoor
