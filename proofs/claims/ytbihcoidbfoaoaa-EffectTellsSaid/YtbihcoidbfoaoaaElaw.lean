/- The statements' own functions over effects: SameEffect, LongEffect, of, file, awake. -/
import Derived.Test.YtbihcoidbfoaoaaErd
import Derived.Test.YtbihcoidbfoaoaaKit
namespace Go.Proofs.Ytbihcoidbfoaoaa
open Go.RowKit
set_option linter.unusedSimpArgs false

/-- Bytes that fill a block. -/
theorem Bs.fill {w : World} {g n : Nat} {C : Array Value} (xs : List UInt8) {fr : Nat × Nat} (hg : w.heap[g]? = some (.cells C 5 fr)) (h : C.toList = xs.map bv) (hn : xs.length = n) : Bs w (some ⟨g, 0, none⟩) n xs :=
  ⟨hn, fun j u hj => ⟨_, rfl, by
    rw [add_zero_lit]
    have e : w.cell? ⟨g, j, none⟩ = C[j]? := by simp [World.cell?, hg]
    rw [e, ← Array.getElem?_toList, h, List.getElem?_map, hj]; rfl⟩⟩

set_option maxHeartbeats 400000 in
theorem longeff_any (w : World) (k m : Int) (A : Option Addr) (n c : Nat) (_hn : n ≤ 140737488351232) :
    Calls Try.prog 8 #[.agg #[.int .i64 k, .int .i64 m, .slice A n c]] w fun e w' => e = .returned (.bool (decide ((1200 : Int) < n))) ∧ Chg [] w w' := by
  go_enter Try.func8, Try.ntmps8
  go_wp2
  go_ret
  exact ⟨rfl, (Chg.refl _ _).alloc _⟩
theorem longeff_yes (w : World) (k m : Int) (A : Option Addr) (n c : Nat) (hn : n ≤ 140737488351232) (h : 1200 < n) :
    Calls Try.prog 8 #[.agg #[.int .i64 k, .int .i64 m, .slice A n c]] w fun e w' => e = .returned (.bool true) ∧ Chg [] w w' := by
  have := longeff_any w k m A n c hn
  rwa [decide_eq_true (by omega)] at this
theorem longeff_no (w : World) (k m : Int) (A : Option Addr) (n c : Nat) (h : n ≤ 1200) :
    Calls Try.prog 8 #[.agg #[.int .i64 k, .int .i64 m, .slice A n c]] w fun e w' => e = .returned (.bool false) ∧ Chg [] w w' := by
  have := longeff_any w k m A n c (by omega)
  rwa [decide_eq_false (by omega)] at this

set_option maxHeartbeats 400000 in
theorem sameeff_yes (w : World) (k m : Int) (A B : Option Addr) (n c n' d : Nat) (xs : List UInt8) (h : Bs w A n xs) (h' : Bs w B n' xs) :
    Calls Try.prog 26 #[.agg #[.int .i64 k, .int .i64 m, .slice A n c], .agg #[.int .i64 k, .int .i64 m, .slice B n' d]] w fun e w' => e = .returned (.bool true) ∧ Chg [] w w' := by
  have c0 := ((Chg.refl [] w).alloc (.cells #[.int .i64 k, .int .i64 m, .slice A n c] 24)).alloc (.cells #[.int .i64 k, .int .i64 m, .slice B n' d] 24)
  have C0 := Lib.hid c0
  have H := Lib.hid (h.chg c0 (by simp))
  have H' := Lib.hid (h'.chg c0 (by simp))
  clear c0 h h'
  go_enter Try.func26, Try.ntmps26
  go_wp2_with fail
  refine (same_yes _ A B n n' c d xs xs H.out H'.out rfl).mono ?_
  rintro e w1 ⟨rfl, rfl⟩
  go_wp2
  go_ret
  exact ⟨rfl, C0.out⟩

set_option maxHeartbeats 400000 in
theorem of_any (w : World) (k : Int) : Calls Try.prog 27 #[.int .i64 k] w fun e w' => e = .returned (.agg #[.int .i64 k, .int .i64 0, .slice none 0 0]) ∧ Chg [] w w' := by
  go_enter Try.func27, Try.ntmps27
  go_wp2
  refine bodyPost_ret (v := .agg #[.int .i64 k, .int .i64 0, .slice none 0 0]) (by simp [results, Try.results27, go_sem]) rfl ?_
  exact ⟨rfl, (Chg.refl _ _).alloc _⟩
set_option maxHeartbeats 400000 in
theorem file_any (w : World) (m : Int) (A : Option Addr) (n c : Nat) : Calls Try.prog 28 #[.int .i64 m, .slice A n c] w fun e w' => e = .returned (.agg #[.int .i64 1, .int .i64 m, .slice A n c]) ∧ Chg [] w w' := by
  go_enter Try.func28, Try.ntmps28
  go_wp2
  refine bodyPost_ret (v := .agg #[.int .i64 1, .int .i64 m, .slice A n c]) (by simp [results, Try.results28, go_sem]) rfl ?_
  exact ⟨rfl, (Chg.refl _ _).alloc _⟩

theorem esame_yes (w : World) (k m k' m' : Int) (A B : Option Addr) (n c n' d : Nat) (xs ys : List UInt8) (h : Bs w A n xs) (h' : Bs w B n' ys) (e : cmpE k m xs k' m' ys = 0) :
    Calls Try.prog 18 #[.agg #[.int .i64 k, .int .i64 m, .slice A n c], .agg #[.int .i64 k', .int .i64 m', .slice B n' d]] w fun e w' => e = .returned (.bool true) ∧ Chg [] w w' := by
  have := esame_any w k m k' m' A B n c n' d xs ys h h'
  rwa [e] at this
theorem eless_yes (w : World) (k m k' m' : Int) (A B : Option Addr) (n c n' d : Nat) (xs ys : List UInt8) (h : Bs w A n xs) (h' : Bs w B n' ys) (e : cmpE k m xs k' m' ys < 0) :
    Calls Try.prog 20 #[.agg #[.int .i64 k, .int .i64 m, .slice A n c], .agg #[.int .i64 k', .int .i64 m', .slice B n' d]] w fun e w' => e = .returned (.bool true) ∧ Chg [] w w' := by
  have := eless_any w k m k' m' A B n c n' d xs ys h h'
  rwa [decide_eq_true e] at this
theorem eless_no (w : World) (k m k' m' : Int) (A B : Option Addr) (n c n' d : Nat) (xs ys : List UInt8) (h : Bs w A n xs) (h' : Bs w B n' ys) (e : ¬ cmpE k m xs k' m' ys < 0) :
    Calls Try.prog 20 #[.agg #[.int .i64 k, .int .i64 m, .slice A n c], .agg #[.int .i64 k', .int .i64 m', .slice B n' d]] w fun e w' => e = .returned (.bool false) ∧ Chg [] w w' := by
  have := eless_any w k m k' m' A B n c n' d xs ys h h'
  rwa [decide_eq_false e] at this
theorem Chg.allocD {a w : World} (h : Chg [] a w.drew) (o : Obj) : Chg [] a (w.alloc o).drew := h.alloc o
theorem Lent.lt {w : World} {g : Nat} {xs : List UInt8} (h : Lent w g xs) : g < w.heap.size := by
  obtain ⟨full, h1, _⟩ := h
  exact lt_of_heap h1
/-- What is written over is new since w1. -/
theorem over_since {w1 w6 w7 : World} {A : Option Addr} (hF : ∀ a, A = some a → w1.heap.size ≤ a.block) (h7 : ∀ S : List Nat, (∀ a, A = some a → a.block ∈ S) → Chg S w6 w7) : ∃ S : List Nat, (∀ i ∈ S, w1.heap.size ≤ i) ∧ Chg S w6 w7 := by
  rcases A with _ | a
  · exact ⟨[], by simp, h7 [] (by simp)⟩
  · exact ⟨[a.block], by simpa using hF a rfl, h7 [a.block] (by rintro b ⟨⟩; simp)⟩
/-- Two new blocks. -/
theorem two_at (w : World) (o o' : Obj) : ∃ w' : World, w' = (w.alloc o).alloc o' ∧ Chg [] w w' ∧ w'.heap[w.heap.size]? = some o ∧ w'.heap[w.heap.size + 1]? = some o' :=
  ⟨_, rfl, ((Chg.refl [] w).alloc _).alloc _, ((Chg.refl [] _).alloc o').at_ (heap_alloc_new w o) (by simp), heap_alloc_two w o o'⟩
theorem last5 {a b c d e f : Prop} (h : a ∧ b ∧ c ∧ d ∧ e ∧ f) : f := h.2.2.2.2.2
theorem Chg.c0 {w w' : World} {a : Addr} {u : Value} (hc : Chg [] w w') (h : w.cell? a = some u) : w'.cell? a = some u := hc.cell h (by simp)

set_option maxHeartbeats 4000000 in
theorem eawake_yes (w : World) : Calls Try.prog 9 #[] w fun r w' => r = .returned (.bool true) ∧ Chg [] w w' := by
  go_enter Try.func9, Try.ntmps9
  go_wp2_with fail
  have l0 := Bs.fill (w := w.alloc (.cells #[.int .u8 7, .int .u8 8] 5)) [7, 8] (heap_alloc_new w _) rfl (rfl : _ = 2)
  have L0 := Lib.hid l0
  have C0 := Lib.hid ((Chg.refl [] w).alloc (.cells #[.int .u8 7, .int .u8 8] 5))
  clear l0
  generalize w.alloc (.cells #[.int .u8 7, .int .u8 8] 5) = w0 at *
  generalize w.heap.size = s at *
  refine (file_any w0 420 _ _ _).mono ?_
  rintro e w1 ⟨rfl, c1⟩
  have L1 := Lib.hid (L0.out.chg c1 (by simp))
  have C1 := Lib.hid (C0.out.trans c1)
  clear c1 L0 C0
  go_wp2_with fail
  have hb := ebytes_any w1 1 420 _ _ 2 [7, 8] L1.out (by decide)
  rw [show effO 1 420 [7, 8] = [1, 1, 2, 1, 164, 1, 2, 7, 8] by decide +kernel, show chkE 1 420 2 = 0 by decide +kernel] at hb
  simp only [List.length_cons, List.length_nil] at hb
  refine hb.mono ?_
  rintro e w2 ⟨A2, c2, rfl, f2⟩
  have F2 := Lib.hid f2
  have C2 := Lib.hid (C1.out.trans f2.2.2)
  clear f2 hb L1 C1
  go_wp2_with fail
  have l3 := Bs.fill (w := w2.alloc (.cells #[.int .u8 1, .int .u8 3, .int .u8 0, .int .u8 0] 5)) [1, 3, 0, 0] (heap_alloc_new w2 _) rfl (rfl : _ = 4)
  have C3 := Lib.hid (C2.out.alloc (.cells #[.int .u8 1, .int .u8 3, .int .u8 0, .int .u8 0] 5))
  have F3 := Lib.hid (F2.out.past ((Chg.refl [] w2).alloc (.cells #[.int .u8 1, .int .u8 3, .int .u8 0, .int .u8 0] 5)))
  clear C2 F2
  have hb := eread_any _ _ _ 4 [1, 3, 0, 0] l3 (by decide)
  rw [show readE [1, 3, 0, 0] = ((3, 0, []), 0, 0) by decide +kernel] at hb
  refine hb.mono ?_
  clear l3 hb
  rintro e w4 ⟨A4, c4, rfl, f4⟩
  have F4 := Lib.hid f4
  have F5 := Lib.hid (F3.out.past f4.2.2)
  have C4 := Lib.hid (C3.out.trans f4.2.2)
  clear f4 C3 F3
  go_wp2
  obtain ⟨w5, hw5⟩ : ∃ w5 : World, w5 = (w4.alloc (.cells #[.int .i64 3, .int .i64 0, .slice A4 0 c4] 24)).alloc (.cells #[.int .i64 0, .int .i64 0] 37) := ⟨_, rfl⟩
  rw [← hw5]
  have c5 : Chg [] w4 w5 := hw5 ▸ ((Chg.refl [] w4).alloc _).alloc _
  have b0 : w5.heap[w4.heap.size]? = _ := hw5 ▸ ((Chg.refl [] _).alloc (.cells #[.int .i64 0, .int .i64 0] 37)).at_ (heap_alloc_new w4 (.cells #[.int .i64 3, .int .i64 0, .slice A4 0 c4] 24)) (by simp)
  have b1 : w5.heap[w4.heap.size + 1]? = _ := hw5 ▸ heap_alloc_two w4 (.cells #[.int .i64 3, .int .i64 0, .slice A4 0 c4] 24) (.cells #[.int .i64 0, .int .i64 0] 37)
  have z0 := cell_of b0 0
  have z1 := cell_of b0 1
  have z2 := cell_of b0 2
  have z3 := cell_of b1 0
  have z4 := cell_of b1 1
  simp only [List.getElem?_toArray, List.getElem?_cons_succ, List.getElem?_cons_zero] at z0 z1 z2 z3 z4
  have F9 := Lib.hid (F5.out.past c5)
  have C9 := Lib.hid (C4.out.trans c5)
  clear c5 b0 b1 F5 C4 F4 hw5
  generalize w4.heap.size + 1 = s1 at *
  generalize w4.heap.size = s0 at *
  have hk : ∀ w', Chg [] w5 w' → w'.cell? ⟨s0, 0, none⟩ = some (.int .i64 3) ∧ w'.cell? ⟨s0, 1, none⟩ = some (.int .i64 0) ∧ w'.cell? ⟨s0, 2, none⟩ = some (.slice A4 0 c4) ∧ w'.cell? ⟨s1, 0, none⟩ = some (.int .i64 0) ∧ w'.cell? ⟨s1, 1, none⟩ = some (.int .i64 0) ∧ Chg [] w5 w' :=
    fun w' hc => ⟨hc.c0 z0, hc.c0 z1, hc.c0 z2, hc.c0 z3, hc.c0 z4, hc⟩
  have HK := Lib.hid hk
  clear hk z0 z1 z2 z3 z4
  go_region_held3 (fun w' => w'.cell? ⟨s0, 0, none⟩ = some (.int .i64 3) ∧ w'.cell? ⟨s0, 1, none⟩ = some (.int .i64 0) ∧ w'.cell? ⟨s0, 2, none⟩ = some (.slice A4 0 c4) ∧ w'.cell? ⟨s1, 0, none⟩ = some (.int .i64 0) ∧ w'.cell? ⟨s1, 1, none⟩ = some (.int .i64 0) ∧ Chg [] w5 w')
    (first | exact HK.out _ hC | exact HK.out _ (Chg.refl [] w5).drew | (have hC := last5 ‹_ ∧ _ ∧ _ ∧ _ ∧ _ ∧ Chg [] w5 _›; first | exact HK.out _ (hC.allocD _) | exact HK.out _ (hC.alloc _) | exact HK.out _ hC))
    (((have hC := last5 ‹_ ∧ _ ∧ _ ∧ _ ∧ _ ∧ Chg [] w5 _›); (first
      | (go_at_call 13; refine (same_yes _ _ _ _ _ _ _ _ _ ((F9.out.past hC).1.reads) (Bs.fill [1, 1, 2, 1, 164, 1, 2, 7, 8] (heap_alloc_new w5 _ : (w5.alloc _).drew.heap[_]? = _) rfl rfl) rfl).mono ?_; rintro e w9 ⟨rfl, rfl⟩)
      | (go_at_call 28; refine (file_any _ _ _ _ _).mono ?_; rintro e w9 ⟨rfl, hc⟩; have hC := hC.trans hc)
      | (go_at_call 16; refine (esize_any _ _ _ _ _ _ (by decide)).mono ?_; rintro e w9 ⟨rfl, hc⟩; have hC := hC.trans hc)
      | (go_at_call 27; refine (of_any _ _).mono ?_; rintro e w9 ⟨rfl, hc⟩; have hC := hC.trans hc)
      | (go_at_call 18; refine (esame_yes _ 3 0 3 0 _ _ 0 _ 0 _ [] [] (Bs.nil _ _) (Bs.nil _ _) (by decide +kernel)).mono ?_; rintro e w9 ⟨rfl, hc⟩; have hC := hC.trans hc)
      | (go_at_call 20; refine (eless_yes _ 2 0 3 0 _ _ 0 _ 0 _ [] [] (Bs.nil _ _) (Bs.nil _ _) (by decide +kernel)).mono ?_; rintro e w9 ⟨rfl, hc⟩; have hC := hC.trans hc))))
  all_goals
    have hC := last5 ‹_ ∧ _ ∧ _ ∧ _ ∧ _ ∧ Chg [] w5 _›
    have HCf := Lib.hid (C9.out.trans hC)
    clear hC
    go_wp2
    go_ret
    exact ⟨rfl, HCf.out⟩
end Go.Proofs.Ytbihcoidbfoaoaa
