/- Layer 17: the odd messages, GetMessage of nothing. -/
import Derived.Test.YtelbahfmkpncaaaPaw
import Derived.Deep.Cut
import Derived.Deep.CutRange
namespace Go.Proofs.Ytelbahfmkpncaaa
open Go.RowKit
set_option linter.unusedSimpArgs false
set_option linter.unusedVariables false

set_option maxHeartbeats 4000000 in
theorem maybe_none (w : World) :
    Calls Try.prog 52 #[.agg #[.int .i64 1, .int .i64 5, .int .i64 3, .int .i64 1, .slice none 0 0]] w fun e w' => e = .returned (.bool false) ∧ Chg [] w w' := by
  go_enter Try.func52, Try.ntmps52
  go_wp2
  go_ret
  exact ⟨rfl, (Chg.refl _ _).alloc _⟩
set_option maxHeartbeats 4000000 in
theorem mcheck_none (w : World) :
    Calls Try.prog 27 #[.agg #[.int .i64 1, .int .i64 5, .int .i64 3, .int .i64 1, .slice none 0 0]] w fun e w' => e = .returned (.int .i64 2) ∧ Chg [] w w' := by
  have c0 := Lib.hid ((Chg.refl [] w).alloc (.cells #[.int .i64 1, .int .i64 5, .int .i64 3, .int .i64 1, .slice none 0 0] 41))
  go_enter Try.func27, Try.ntmps27
  go_wp2_with (go_at_call 52; refine (maybe_none _).mono ?_; rintro e w1 ⟨rfl, hc⟩; have C1 := Lib.hid (c0.out.trans hc); clear hc)
  go_ret
  exact ⟨rfl, C1.out⟩
set_option maxHeartbeats 4000000 in
theorem mcheck_sized (w : World) :
    Calls Try.prog 27 #[.agg #[.int .i64 3, .int .i64 5, .int .i64 1, .int .i64 0, .slice none 0 0]] w fun e w' => e = .returned (.int .i64 2) ∧ Chg [] w w' := by
  go_enter Try.func27, Try.ntmps27
  go_wp2
  go_ret
  exact ⟨rfl, (Chg.refl _ _).alloc _⟩
theorem run_up (w : World) (r clock : Nat) (es : Array MapEntry) (k : Int) (val : Value) (hb : w.heap[r]? = some (.map es clock)) (hf : Instr.findNow (.int .i64) (.int .i64 k) es.toList 0 = some none) :
    (Instr.mapUpdate 69 (.map (some r)) (.int .i64 k) val).run Try.prog w = .ok () { w with heap := w.heap.setIfInBounds r (.map (es.push { key := .int .i64 k, val := val, born := clock }) (clock + 1)) } := by
  have hc : (Instr.checkKey false 10000 68 (.int .i64 k)).run Try.prog w = .ok () w := MapKept.run_checkKey (k := .int .i64 k) Try.underlying68 (by simp [MapKept.IsKey]) false 9999
  simp [Instr.mapUpdate, run_underlying Try.underlying69, MapKept.run_getObj_map hb, hc, MapKept.run_findKey Try.underlying68 hf, MapKept.run_setObj_map _ hb, Result.andThen]
theorem chg_obj {w w1 : World} {r : Nat} (o : Obj) (hc : Chg [] w w1) (hr : w.heap.size ≤ r) : Chg [] w { w1 with heap := w1.heap.setIfInBounds r o } := by
  obtain ⟨a, b, c, d, e⟩ := hc
  refine ⟨a, b, c, by simpa using d, fun k hk hn => ?_⟩
  show (w1.heap.setIfInBounds r o)[k]? = _
  rw [Array.getElem?_setIfInBounds_ne (by omega)]
  exact e k hk hn
theorem obj_put {w1 : World} {r : Nat} {o o' : Obj} (h : w1.heap[r]? = some o) : ({ w1 with heap := w1.heap.setIfInBounds r o' } : World).heap[r]? = some o' := (MapKept.heap_set h).1

set_option maxHeartbeats 4000000 in
theorem rests_any (w : World) : Calls Try.prog 51 #[] w fun e w' => ∃ v, e = .returned v ∧ Chg [] w w' := by
  have hmk : ∀ w : World, (Instr.makeMap 69 none).run Try.prog w = .ok (.map (some w.heap.size)) (w.alloc (.map #[] 0)) := fun _ => rfl
  obtain ⟨w1, hw1⟩ : ∃ w1 : World, w1 = w.alloc (.map #[] 0) := ⟨_, rfl⟩
  have h1 : w1.heap[w.heap.size]? = some (.map #[] 0) := hw1 ▸ heap_alloc_new w _
  have c1 : Chg [] w w1 := hw1 ▸ (Chg.refl [] w).alloc _
  have u1 := run_up w1 w.heap.size 0 #[] 1 (.func (.func 69) #[] #[]) h1 rfl
  have c2 := chg_obj (.map (#[].push { key := .int .i64 1, val := .func (.func 69) #[] #[], born := 0 }) (0 + 1)) c1 (Nat.le_refl _)
  have h2 := obj_put (o' := .map (#[].push { key := .int .i64 1, val := .func (.func 69) #[] #[], born := 0 }) (0 + 1)) h1
  have u2 := run_up _ w.heap.size _ _ 2 (.func (.func 68) #[] #[]) h2 rfl
  have c3 := chg_obj (.map ((#[].push { key := .int .i64 1, val := .func (.func 69) #[] #[], born := 0 }).push { key := .int .i64 2, val := .func (.func 68) #[] #[], born := 0 + 1 }) (0 + 1 + 1)) c2 (Nat.le_refl _)
  have h3 := obj_put (o' := .map ((#[].push { key := .int .i64 1, val := .func (.func 69) #[] #[], born := 0 }).push { key := .int .i64 2, val := .func (.func 68) #[] #[], born := 0 + 1 }) (0 + 1 + 1)) h2
  have u3 := run_up _ w.heap.size _ _ 3 (.func (.func 68) #[] #[]) h3 rfl
  have c4 := chg_obj (.map (((#[].push { key := .int .i64 1, val := .func (.func 69) #[] #[], born := 0 }).push { key := .int .i64 2, val := .func (.func 68) #[] #[], born := 0 + 1 }).push { key := .int .i64 3, val := .func (.func 68) #[] #[], born := 0 + 1 + 1 }) (0 + 1 + 1 + 1)) c3 (Nat.le_refl _)
  have C4 := Lib.hid c4
  have W1 := Lib.hid hw1
  clear c4 c3 c2 c1 h1 h2 h3 hw1
  generalize ({ w1 with heap := w1.heap.setIfInBounds w.heap.size (.map (#[].push { key := .int .i64 1, val := .func (.func 69) #[] #[], born := 0 }) (0 + 1)) } : World) = w2 at *
  generalize ({ w2 with heap := w2.heap.setIfInBounds w.heap.size (.map ((#[].push { key := .int .i64 1, val := .func (.func 69) #[] #[], born := 0 }).push { key := .int .i64 2, val := .func (.func 68) #[] #[], born := 0 + 1 }) (0 + 1 + 1)) } : World) = w3 at *
  generalize ({ w3 with heap := w3.heap.setIfInBounds w.heap.size (.map (((#[].push { key := .int .i64 1, val := .func (.func 69) #[] #[], born := 0 }).push { key := .int .i64 2, val := .func (.func 68) #[] #[], born := 0 + 1 }).push { key := .int .i64 3, val := .func (.func 68) #[] #[], born := 0 + 1 + 1 }) (0 + 1 + 1 + 1)) } : World) = w4 at *
  go_enter Try.func51, Try.ntmps51
  have hmk1 := hmk w
  rw [← W1.out] at hmk1
  clear hmk
  go_wp2
  go_ret
  exact ⟨_, rfl, C4.out⟩
theorem nil1 : rNum [] 0 0 0 1 3 = (0, 0, 4, 0) := by decide +kernel
theorem nil2 : rNum [] 0 4 0 1 1099511627776 = (0, 0, 4, 0) := by decide +kernel
theorem nil3 : endR [] 0 4 0 = (4, 0) := by decide +kernel

set_option maxHeartbeats 4000000 in
theorem mget_nil (w : World) : Calls Try.prog 24 #[.slice none 0 0] w fun e w' => e = .returned (.tuple #[.agg #[.int .i64 0, .int .i64 0, .int .i64 0, .int .i64 0, .slice none 0 0], .agg #[.int .i64 4, .int .i64 0]]) ∧ Chg [] w w' := by
  obtain ⟨w0, hw0⟩ : ∃ w0 : World, w0 = (w.alloc (.cells #[.int .i64 0, .int .i64 0, .int .i64 0, .int .i64 0, .slice none 0 0] 41)).alloc (.cells #[.int .i64 0, .int .i64 0] 32) := ⟨_, rfl⟩
  have c0 : Chg [] w w0 := hw0 ▸ ((Chg.refl [] w).alloc _).alloc _
  have b0 : w0.heap[w.heap.size]? = some (.cells #[.int .i64 0, .int .i64 0, .int .i64 0, .int .i64 0, .slice none 0 0] 41 (0, 0)) := hw0 ▸ ((Chg.refl [] _).alloc _).at_ (heap_alloc_new w _) (by simp)
  have b1 : w0.heap[w.heap.size + 1]? = some (.cells #[.int .i64 0, .int .i64 0] 32 (0, 0)) := hw0 ▸ heap_alloc_two w _ _
  have g0 := lt_of_heap b0
  have g1 := lt_of_heap b1
  have W0 := Lib.hid hw0
  have C0 := Lib.hid c0
  have B0 := Lib.hid b0
  have B1 := Lib.hid b1
  have hs2 : ¬ w.heap.size = w.heap.size + 1 := by omega
  have d5 : ¬ w.heap.size + 1 = w.heap.size := by omega
  have hp0 : ∀ w' j v, Chg [] w w' → Chg [] w (w'.setCell ⟨w.heap.size, j, none⟩ v) := fun _ _ _ h => h.setCell (.inr (Nat.le_refl _)) _
  have hp1 : ∀ w' j v, Chg [] w w' → Chg [] w (w'.setCell ⟨w.heap.size + 1, j, none⟩ v) := fun _ _ _ h => h.setCell (.inr (Nat.le_succ _)) _
  have HP0 := Lib.hid hp0
  have HP1 := Lib.hid hp1
  clear hp0 hp1 hw0 c0 b0 b1
  go_enter Try.func24, Try.ntmps24
  go_wp2_with fail
  rw [← W0.out]
  generalize w.heap.size + 1 = s1 at *
  generalize w.heap.size = s0 at *
  refine (rs_open w0 w0 none 0 0 [] (Chg.refl _ _) (Bs.nil _ _) (by decide)).mono ?_
  rintro e w1 ⟨b, rfl, h1⟩
  have K1 := Lib.hid h1
  clear h1
  go_wp2_with fail
  have r1 := rs_num w0 w1 b [] 0 0 0 1 3 K1.out
  rw [nil1] at r1
  refine r1.mono ?_
  rintro e w2 ⟨rfl, h2, -⟩
  have K2 := Lib.hid h2
  clear h2 K1 r1
  go_wp2_with fail
  have r1 := rs_num w0 w2 b [] 0 4 0 1 1099511627776 K2.out
  rw [nil2] at r1
  refine r1.mono ?_
  rintro e w3 ⟨rfl, h3, -⟩
  have K3 := Lib.hid h3
  clear h3 K2 r1
  go_wp2_with fail
  have b5 := heap_alloc_new w3 (.cells #[.int .i64 0, .int .i64 0, .int .i64 0, .int .i64 0, .slice none 0 0] 41)
  have k5 := K3.out.past ((Chg.refl [] w3).alloc (.cells #[.int .i64 0, .int .i64 0, .int .i64 0, .int .i64 0, .slice none 0 0] 41))
  have B5 := Lib.hid b5
  have K5 := Lib.hid k5
  clear b5 k5 K3
  generalize w3.alloc (.cells #[.int .i64 0, .int .i64 0, .int .i64 0, .int .i64 0, .slice none 0 0] 41) = w4 at *
  generalize w3.heap.size = s5 at *
  refine (rests_any w4).mono ?_
  rintro e w5 ⟨v, rfl, c5⟩
  have q5 := c5.at_ B5.out (by simp)
  have x0 := cell_of q5 0
  simp only [List.getElem?_toArray, List.getElem?_cons_succ, List.getElem?_cons_zero] at x0
  have K6 := Lib.hid (K5.out.past c5)
  clear c5 q5 K5 B5
  go_wp2_with fail
  have r1 := rs_end w0 w5 b [] 0 4 0 K6.out
  rw [nil3] at r1
  refine r1.mono ?_
  rintro e w8 ⟨rfl, c8⟩
  have K8 := Lib.hid (K6.out.past c8)
  clear c8 r1 K6 x0
  obtain ⟨wa, hwa⟩ : ∃ wa : World, wa = w8.alloc (.cells #[.int .i64 4, .int .i64 0] 32) := ⟨_, rfl⟩
  have ca : Chg [] w8 wa := hwa ▸ (Chg.refl [] w8).alloc _
  have ba : wa.heap[w8.heap.size]? = some (.cells #[.int .i64 4, .int .i64 0] 32 (0, 0)) := hwa ▸ heap_alloc_new w8 _
  have t6 := K8.out.chg.size
  have d1 : ¬ w8.heap.size = s0 := by omega
  have d2 : ¬ w8.heap.size = s1 := by omega
  have d3 : ¬ s0 = w8.heap.size := by omega
  have d4 : ¬ s1 = w8.heap.size := by omega
  clear t6
  have QC := Lib.hid (K8.out.chg.trans ca)
  have Wa := Lib.hid hwa
  have y0 := cell_of ba 0
  have y1 := cell_of ba 1
  simp only [List.getElem?_toArray, List.getElem?_cons_succ, List.getElem?_cons_zero] at y0 y1
  have C8 := Lib.hid (C0.out.trans QC.out)
  clear hwa ca ba K8
  go_upto_region 12 with fail
  rw [← Wa.out]
  generalize w8.heap.size = s6 at *
  have q0 := QC.out.at_ B0.out (by simp)
  have q1 := QC.out.at_ B1.out (by simp)
  have z0 := cell_of q0 0
  have z1 := cell_of q0 1
  have z2 := cell_of q0 2
  have z3 := cell_of q0 3
  have z4 := cell_of q0 4
  have z5 := cell_of q1 0
  have z6 := cell_of q1 1
  have f0 := free_of q0 0
  have f1 := free_of q0 1
  have f2 := free_of q0 2
  have f3 := free_of q0 3
  have f4 := free_of q0 4
  have f5 := free_of q1 0
  have f6 := free_of q1 1
  simp only [List.getElem?_toArray, List.getElem?_cons_succ, List.getElem?_cons_zero] at z0 z1 z2 z3 z4 z5 z6
  have P := put7 (.int .i64 0) (.int .i64 0) (.int .i64 0) (.int .i64 0) (.slice none 0 0) (.int .i64 4) (.int .i64 0) q0 q1 hs2
  have cW := (HP1.out _ 1 (.int .i64 0) (HP1.out _ 0 (.int .i64 4) (HP0.out _ 4 (.slice none 0 0) (HP0.out _ 3 (.int .i64 0) (HP0.out _ 2 (.int .i64 0) (HP0.out _ 1 (.int .i64 0) (HP0.out _ 0 (.int .i64 0) C8.out)))))))
  have FW := Lib.hid (Chg.drew cW)
  have HPP := Lib.hid P
  clear P cW q0 q1
  go_wp2
  go_region
  go_wp2
  clear z0 z1 z2 z3 z4 z5 z6 f0 f1 f2 f3 f4 f5 f6
  generalize (((((((wa.setCell ⟨s0, 0, none⟩ (.int .i64 0)).setCell ⟨s0, 1, none⟩ (.int .i64 0)).setCell ⟨s0, 2, none⟩ (.int .i64 0)).setCell ⟨s0, 3, none⟩ (.int .i64 0)).setCell ⟨s0, 4, none⟩ (.slice none 0 0)).setCell ⟨s1, 0, none⟩ (.int .i64 4)).setCell ⟨s1, 1, none⟩ (.int .i64 0)) = W at *
  have z0 := cell_of HPP.out.1 0
  have z1 := cell_of HPP.out.1 1
  have z2 := cell_of HPP.out.1 2
  have z3 := cell_of HPP.out.1 3
  have z4 := cell_of HPP.out.1 4
  have z5 := cell_of HPP.out.2 0
  have z6 := cell_of HPP.out.2 1
  simp only [List.getElem?_toArray, List.getElem?_cons_succ, List.getElem?_cons_zero] at z0 z1 z2 z3 z4 z5 z6
  refine bodyPost_ret (v := .tuple #[.agg #[.int .i64 0, .int .i64 0, .int .i64 0, .int .i64 0, .slice none 0 0], .agg #[.int .i64 4, .int .i64 0]]) (by simp [results, Try.results24, go_sem, z0, z1, z2, z3, z4, z5, z6]) rfl ?_
  exact ⟨rfl, FW.out⟩
end Go.Proofs.Ytelbahfmkpncaaa
