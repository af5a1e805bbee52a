/- The statements' own functions over dots: of, awake. -/
import Derived.Test.YtmcnfopiilplnaaDoorDhparse
import Derived.Test.YtmcnfopiilplnaaDoorDread
import Derived.Test.YtmcnfopiilplnaaDoorDnext
namespace Go.Proofs.YtmcnfopiilplnaaDoor
open Go.RowKit Go.Lib
set_option linter.unusedSimpArgs false
set_option linter.unusedVariables false


theorem Chg.allocD {a w : World} (h : Chg [] a w.drew) (o : Obj) : Chg [] a (w.alloc o).drew := h.alloc o
set_option maxHeartbeats 400000 in
theorem dof_any (w : World) (n s : Int) : Calls Tryd.prog 33 #[.int .i64 n, .int .i64 s] w fun e w' => e = .returned (.agg #[.int .i64 n, .int .i64 s]) ∧ Chg [] w w' := by
  go_enter Tryd.func33, Tryd.ntmps33
  go_wp2
  refine bodyPost_ret (v := .agg #[.int .i64 n, .int .i64 s]) (by simp [results, Tryd.results33, go_sem]) rfl ?_
  exact ⟨rfl, (Chg.refl _ _).alloc _⟩
theorem Bs.lits5 {w : World} {C : Array Value} {fr : Nat × Nat} {n : Nat} (xs : List UInt8) (h : C.toList = xs.map bv) (hn : xs.length = n) : Bs (w.alloc (.cells C 5 fr)).drew (some ⟨w.heap.size, 0, none⟩) n xs :=
  ⟨hn, fun j u hj => ⟨_, rfl, by
    rw [add_zero_lit]
    have e : (w.alloc (.cells C 5 fr)).drew.cell? ⟨w.heap.size, j, none⟩ = C[j]? := cell_of (heap_alloc_new w _) j
    rw [e, ← Array.getElem?_toList, h, List.getElem?_map, hj]; rfl⟩⟩
theorem dbytes_258 (w : World) : Calls Tryd.prog 22 #[.agg #[.int .i64 3, .int .i64 258]] w fun e w' => ∃ A c, e = .returned (.tuple #[.slice A 5 c, .int .i64 0]) ∧ Fresh w w' A c [3, 0, 0, 1, 2] := by
  have h := dbytes_any w 3 258
  rwa [show dotO 3 258 = [3, 0, 0, 1, 2] by decide +kernel, show chkD 3 258 = 0 by decide +kernel] at h
theorem dtext_258 (w : World) (hT : TabD w) : Calls Tryd.prog 29 #[.agg #[.int .i64 3, .int .i64 258]] w fun e w' => e = .returned (.tuple #[.string ⟨#[51, 46, 50, 53, 56]⟩, .int .i64 0]) ∧ Chg [] w w' := by
  have h := dtext_any w 3 258 hT
  rwa [show strOf (textO 3 258) = ⟨#[51, 46, 50, 53, 56]⟩ by decide +kernel, show chkD 3 258 = 0 by decide +kernel] at h
theorem dparse_258 (w : World) (hT : TabD w) : Calls Tryd.prog 31 #[.string ⟨#[51, 46, 50, 53, 56]⟩] w fun e w' => e = .returned (.tuple #[.agg #[.int .i64 3, .int .i64 258], .int .i64 0]) ∧ Chg [] w w' := by
  have h := dparse_any w ⟨#[51, 46, 50, 53, 56]⟩ (by decide) hT
  rwa [show parseD (⟨#[51, 46, 50, 53, 56]⟩ : ByteArray).data.toList = ((3, 258), 0) by decide +kernel] at h
theorem dcheck_01 (w : World) : Calls Tryd.prog 17 #[.agg #[.int .i64 0, .int .i64 1]] w fun e w' => e = .returned (.int .i64 2) ∧ Chg [] w w' := by
  have h := dcheck_any w 0 1
  rwa [show chkD 0 1 = 2 by decide +kernel] at h

set_option maxHeartbeats 4000000 in
theorem dawake_yes (w : World) (hT : TabD w) : Calls Tryd.prog 9 #[] w fun r w' => r = .returned (.bool true) ∧ Chg [] w w' := by
  have HT := Lib.hid hT
  clear hT
  have C := Lib.hid (Chg.refl [] w)
  go_enter Tryd.func9, Tryd.ntmps9
  go_wp2_with fail
  refine (dof_any _ _ _).mono ?_
  rintro e w1 ⟨rfl, ca⟩
  replace C := Lib.hid (C.out.trans ca)
  clear ca
  go_wp2_with fail
  refine (dbytes_258 _).mono ?_
  rintro e w2 ⟨A, c, rfl, ca⟩
  replace C := Lib.hid (C.out.trans ca.2.2)
  have FB := Lib.hid ca.1
  clear ca
  go_wp2_with fail
  refine (dof_any _ _ _).mono ?_
  rintro e w3 ⟨rfl, ca⟩
  replace C := Lib.hid (C.out.trans ca)
  replace FB := Lib.hid (FB.out.chg ca (by simp))
  clear ca
  go_wp2_with fail
  refine (dtext_258 _ (HT.out.chg C.out)).mono ?_
  rintro e w4 ⟨rfl, ca⟩
  replace C := Lib.hid (C.out.trans ca)
  replace FB := Lib.hid (FB.out.chg ca (by simp))
  clear ca
  go_wp2_with fail
  refine (dparse_258 _ (HT.out.chg C.out)).mono ?_
  rintro e w5 ⟨rfl, ca⟩
  replace C := Lib.hid (C.out.trans ca)
  replace FB := Lib.hid (FB.out.chg ca (by simp))
  clear ca
  obtain ⟨w6, hw6, cw6, b_B0⟩ := news1 w5 (.cells #[.int .i64 3, .int .i64 258] 23)
  have Ww6 := Lib.hid hw6
  have l_B0 := lt_of_heap b_B0
  replace C := Lib.hid (C.out.trans cw6)
  replace FB := Lib.hid (FB.out.chg cw6 (by simp))
  have B0 := Lib.hid (b_B0)
  clear hw6 cw6 b_B0
  go_wp2
  rw [← Ww6.out]
  generalize w5.heap.size = s0 at *
  clear Ww6
  have hk : ∀ w', Chg [] w6 w' → w'.cell? ⟨s0, 0, none⟩ = some (.int .i64 3) ∧ w'.cell? ⟨s0, 1, none⟩ = some (.int .i64 258) ∧ Chg [] w6 w' := by
    intro w' hc
    have b_B0 := hc.at_ B0.out (by simp)
    exact ⟨cell_of b_B0 0, cell_of b_B0 1, hc⟩
  have HK := Lib.hid hk
  clear hk
  go_region_held3 (fun w' => w'.cell? ⟨s0, 0, none⟩ = some (.int .i64 3) ∧ w'.cell? ⟨s0, 1, none⟩ = some (.int .i64 258) ∧ Chg [] w6 w')
    (first | exact HK.out _ hC | exact HK.out _ (Chg.refl [] w6).drew | (have hC := (‹_ ∧ _ ∧ Chg [] w6 _›).2.2; first | exact HK.out _ (hC.allocD _) | exact HK.out _ (hC.alloc _) | exact HK.out _ hC.drew | exact HK.out _ hC))
    (((have hC := (‹_ ∧ _ ∧ Chg [] w6 _›).2.2); (first
      | (go_at_call 26; refine (same_yes _ _ _ _ _ _ _ _ _ ((FB.out.chg hC (by simp)).reads) (Bs.lits5 [3, 0, 0, 1, 2] rfl rfl) rfl).mono ?_; rintro e w9 ⟨rfl, rfl⟩)
      | (go_at_call 33; (with_reducible refine (dof_any _ _ _).mono ?_); rintro e w9 ⟨rfl, hc⟩; have hC := hC.trans hc)
      | (go_at_call 17; (with_reducible refine (dcheck_01 _).mono ?_); rintro e w9 ⟨rfl, hc⟩; have hC := hC.trans hc))))
  all_goals
    have hC := (‹_ ∧ _ ∧ Chg [] w6 _›).2.2
    have HCf := Lib.hid (C.out.trans hC)
    clear hC
    go_wp2
    go_ret
    exact ⟨rfl, HCf.out⟩
end Go.Proofs.YtmcnfopiilplnaaDoor
