/- Writers and readers that are none, or that New and Open did not make. -/
import Derived.Test.YtknhgicpndgdoaaKit
import Derived.Test.YtknhgicpndgdoaaRd3
namespace Go.Proofs.Ytknhgicpndgdoaa
open Go.RowKit

/-- No writer, or one that New did not make. -/
def DeadW (w : World) (v : Value) : Prop := v = .pointer none ∨ ∃ b, v = .pointer (some ⟨b, 0, none⟩) ∧ w.heap[b]? = some (.cells #[.pointer none, .slice none 0 0, .int .i64 0] 57 (0, 0))
theorem DeadW.chg {S : List Nat} {w w' : World} {v : Value} (h : DeadW w v) (hc : Chg S w w') (hS : ∀ b, v = .pointer (some ⟨b, 0, none⟩) → b ∉ S) : DeadW w' v := by
  rcases h with h | ⟨b, h, h1⟩
  · exact .inl h
  · exact .inr ⟨b, h, hc.at_ h1 (hS b h)⟩
/-- No reader, or one that Open did not make. -/
def DeadR (w : World) (v : Value) : Prop := v = .pointer none ∨ ∃ b, v = .pointer (some ⟨b, 0, none⟩) ∧ w.heap[b]? = some (.cells #[.pointer none, .slice none 0 0, .int .i64 0, .int .i64 0, .int .i64 0] 60 (0, 0))
theorem DeadR.chg {S : List Nat} {w w' : World} {v : Value} (h : DeadR w v) (hc : Chg S w w') (hS : ∀ b, v = .pointer (some ⟨b, 0, none⟩) → b ∉ S) : DeadR w' v := by
  rcases h with h | ⟨b, h, h1⟩
  · exact .inl h
  · exact .inr ⟨b, h, hc.at_ h1 (hS b h)⟩

theorem run_eql_nil_ptr {P : Program} (w : World) {tp te : TypeId} (a : Addr) (hp : P.underlying tp = some (.pointer te)) :
    (binOp .eql tp (.pointer none) (.pointer (some a))).run P w = .ok (.bool false) w := by
  have h : ∀ d : Nat, (Op.equalIn (d + 1) tp (.pointer none) (.pointer (some a))).run P w = .ok false w := fun d => by
    simp [Op.equalIn, run_underlying hp]
  simp only [binOp]
  simp [Op.equal, Op.maxDepth, h 9999]
theorem nilPW (a : Addr) (w : World) : (binOp .eql 23 (.pointer none) (.pointer (some a))).run Try.prog w = .ok (.bool false) w := by
  exact run_eql_nil_ptr w a Try.underlying23
theorem nilPR (a : Addr) (w : World) : (binOp .eql 42 (.pointer none) (.pointer (some a))).run Try.prog w = .ok (.bool false) w := by
  exact run_eql_nil_ptr w a Try.underlying42

theorem wmade_dead (w : World) (v : Value) (h : DeadW w v) : Calls Try.prog 43 #[v] w fun e w' => e = .returned (.bool false) ∧ w = w' := by
  rcases h with rfl | ⟨b, rfl, h1⟩
  · exact made_nil w
  · have h0 := cell_of h1 0
    simp only [List.getElem?_toArray, List.getElem?_cons_zero] at h0
    have H := Lib.hid h1
    clear h1
    have h1 := nilPW ⟨b, 0, none⟩
    go_enter Try.func43, Try.ntmps43
    go_wp2
    go_ret
    exact ⟨rfl, rfl⟩
theorem rmade_dead (w : World) (v : Value) (h : DeadR w v) : Calls Try.prog 49 #[v] w fun e w' => e = .returned (.bool false) ∧ w = w' := by
  rcases h with rfl | ⟨b, rfl, h1⟩
  · go_enter Try.func49, Try.ntmps49
    go_wp2
    go_ret
    exact ⟨rfl, rfl⟩
  · have h0 := cell_of h1 0
    simp only [List.getElem?_toArray, List.getElem?_cons_zero] at h0
    have H := Lib.hid h1
    clear h1
    have h1 := nilPR ⟨b, 0, none⟩
    go_enter Try.func49, Try.ntmps49
    go_wp2
    go_ret
    exact ⟨rfl, rfl⟩

set_option maxHeartbeats 400000 in
theorem wnum_dead (w : World) (v : Value) (x : Int) (h : DeadW w v) : Calls Try.prog 37 #[v, .int .i64 x] w fun e w' => e = .returned (.tuple #[]) ∧ w = w' := by
  go_enter Try.func37, Try.ntmps37
  go_wp2_with fail
  refine (wmade_dead w v h).mono ?_
  rintro r w1 ⟨rfl, rfl⟩
  go_wp2
  refine bodyPost_ret (results_none rfl _ _ _) rfl ?_
  exact ⟨rfl, rfl⟩
set_option maxHeartbeats 400000 in
theorem wtext_dead (w : World) (v : Value) (s : ByteArray) (h : DeadW w v) : Calls Try.prog 38 #[v, .string s] w fun e w' => e = .returned (.tuple #[]) ∧ w = w' := by
  go_enter Try.func38, Try.ntmps38
  go_wp2_with fail
  refine (wmade_dead w v h).mono ?_
  rintro r w1 ⟨rfl, rfl⟩
  go_wp2
  go_end0
  exact ⟨rfl, rfl⟩
set_option maxHeartbeats 400000 in
theorem wraw_dead (w : World) (v : Value) (B : Option Addr) (m d : Nat) (h : DeadW w v) : Calls Try.prog 39 #[v, .slice B m d] w fun e w' => e = .returned (.tuple #[]) ∧ w = w' := by
  go_enter Try.func39, Try.ntmps39
  go_wp2_with fail
  refine (wmade_dead w v h).mono ?_
  rintro r w1 ⟨rfl, rfl⟩
  go_wp2
  go_end0
  exact ⟨rfl, rfl⟩
set_option maxHeartbeats 400000 in
theorem wout_dead (w : World) (v : Value) (h : DeadW w v) : Calls Try.prog 14 #[v] w fun e w' => e = .returned (.tuple #[.slice none 0 0, .int .i64 1]) ∧ w = w' := by
  go_enter Try.func14, Try.ntmps14
  go_wp2_with fail
  refine (wmade_dead w v h).mono ?_
  rintro r w1 ⟨rfl, rfl⟩
  go_wp2
  go_ret2
  exact ⟨rfl, rfl⟩
set_option maxHeartbeats 400000 in
theorem rreads_dead (w : World) (v : Value) (h : DeadR w v) : Calls Try.prog 50 #[v] w fun e w' => e = .returned (.bool false) ∧ w = w' := by
  go_enter Try.func50, Try.ntmps50
  go_wp2_with fail
  refine (rmade_dead w v h).mono ?_
  rintro r w1 ⟨rfl, rfl⟩
  go_wp2
  go_ret
  exact ⟨rfl, rfl⟩
set_option maxHeartbeats 400000 in
theorem rnum_dead (w : World) (v : Value) (low high : Int) (h : DeadR w v) : Calls Try.prog 29 #[v, .int .i64 low, .int .i64 high] w fun e w' => e = .returned (.int .i64 0) ∧ w = w' := by
  go_enter Try.func29, Try.ntmps29
  go_wp2_with fail
  refine (rreads_dead w v h).mono ?_
  rintro r w1 ⟨rfl, rfl⟩
  go_wp2
  go_ret
  exact ⟨rfl, rfl⟩
set_option maxHeartbeats 400000 in
theorem rat_dead (w : World) (v : Value) (h : DeadR w v) : Calls Try.prog 22 #[v] w fun e w' => e = .returned (.int .i64 0) ∧ w = w' := by
  go_enter Try.func22, Try.ntmps22
  go_wp2_with fail
  refine (rmade_dead w v h).mono ?_
  rintro r w1 ⟨rfl, rfl⟩
  go_wp2
  go_ret
  exact ⟨rfl, rfl⟩
set_option maxHeartbeats 400000 in
theorem rleft_dead (w : World) (v : Value) (h : DeadR w v) : Calls Try.prog 23 #[v] w fun e w' => e = .returned (.int .i64 0) ∧ w = w' := by
  go_enter Try.func23, Try.ntmps23
  go_wp2_with fail
  refine (rmade_dead w v h).mono ?_
  rintro r w1 ⟨rfl, rfl⟩
  go_wp2
  go_ret
  exact ⟨rfl, rfl⟩
set_option maxHeartbeats 400000 in
theorem rfault_dead (w : World) (v : Value) (h : DeadR w v) : Calls Try.prog 25 #[v] w fun e w' => e = .returned (.agg #[.int .i64 1, .int .i64 0]) ∧ Chg [] w w' := by
  have h' := h.chg ((Chg.refl [] w).alloc (.cells #[.int .i64 0, .int .i64 0] 51)) (by simp)
  go_enter Try.func25, Try.ntmps25
  go_wp2_with fail
  refine (rmade_dead _ v h').mono ?_
  rintro r w1 ⟨rfl, rfl⟩
  go_wp2
  refine bodyPost_ret (v := .agg #[.int .i64 1, .int .i64 0]) (by simp [results, Try.results25, go_sem]) rfl ?_
  exact ⟨rfl, (Chg.refl _ _).alloc _⟩
set_option maxHeartbeats 400000 in
theorem rend_dead (w : World) (v : Value) (h : DeadR w v) : Calls Try.prog 26 #[v] w fun e w' => e = .returned (.agg #[.int .i64 1, .int .i64 0]) ∧ Chg [] w w' := by
  have hc := (Chg.refl [] w).alloc (.cells #[.int .i64 0, .int .i64 0] 51)
  have h' := h.chg hc (by simp)
  have k := heap_alloc_new w (.cells #[.int .i64 0, .int .i64 0] 51)
  have HC := Lib.hid hc
  have K := Lib.hid k
  clear hc k h
  go_enter Try.func26, Try.ntmps26
  go_wp2
  go_quiet ((go_at_call 50; exact Calls.quiet_of_same (flipw (rreads_dead _ v (h'.chg ((Chg.refl [] _).drewN _) (by simp))))))
  go_wp2_with fail
  refine (rfault_dead _ v (h'.chg ((Chg.refl [] _).drewN _) (by simp))).mono ?_
  rintro r w1 ⟨rfl, c1⟩
  have k1 := c1.at_ (b := w.heap.size) K.out (by simp)
  have f0 := free_of k1 0
  have f1 := free_of k1 1
  have m0 := cell_of k1 0
  have m1 := cell_of k1 1
  simp only [List.getElem?_toArray, List.getElem?_cons_succ, List.getElem?_cons_zero] at m0 m1
  have C1 := Lib.hid c1
  clear c1 k1
  go_wp2
  refine bodyPost_ret (v := .agg #[.int .i64 1, .int .i64 0]) (by simp [results, Try.results26, go_sem, *]) rfl ?_
  exact ⟨rfl, ((HC.out.drewN _).trans C1.out).setCell (.inr (Nat.le_refl _)) _ |>.setCell (.inr (Nat.le_refl _)) _⟩

set_option maxHeartbeats 400000 in
theorem piece_dead (w : World) (v : Value) (most : Int) (h : DeadR w v) : Calls Try.prog 52 #[v, .int .i64 most] w fun e w' => e = .returned (.slice none 0 0) ∧ w = w' := by
  go_enter Try.func52, Try.ntmps52
  go_wp2
  refine wp_scope_fwd 0 rfl ?_
  go_wp2_with fail
  refine (rreads_dead w v h).mono ?_
  rintro r w1 ⟨rfl, rfl⟩
  go_wp2
  simp only [Exit.jump]
  go_ret
  exact ⟨rfl, rfl⟩
set_option maxHeartbeats 400000 in
theorem rtext_dead (w : World) (v : Value) (most : Int) (h : DeadR w v) : Calls Try.prog 30 #[v, .int .i64 most] w fun e w' => e = .returned (.string ⟨#[]⟩) ∧ w = w' := by
  have hs := fun w => run_str w (c := 0) (Bs.nil w none)
  go_enter Try.func30, Try.ntmps30
  go_wp2_with fail
  refine (piece_dead w v most h).mono ?_
  rintro r w1 ⟨rfl, rfl⟩
  go_wp2
  go_ret
  exact ⟨rfl, rfl⟩
set_option maxHeartbeats 400000 in
theorem rraw_dead (w : World) (v : Value) (most : Int) (h : DeadR w v) : Calls Try.prog 31 #[v, .int .i64 most] w fun e w' => (∃ A c, e = .returned (.slice A 0 c)) ∧ Chg [] w w' := by
  go_enter Try.func31, Try.ntmps31
  go_wp2_with fail
  refine (piece_dead w v most h).mono ?_
  rintro r w1 ⟨rfl, rfl⟩
  go_wp2_with fail
  refine (clone_any w none 0 0 [] (Bs.nil _ _) (by decide)).mono ?_
  rintro r w2 ⟨A, c, rfl, f1, f2, f3⟩
  have F2 := Lib.hid f2
  clear f2
  go_wp2
  go_ret
  exact ⟨⟨A, c, rfl⟩, f3⟩
end Go.Proofs.Ytknhgicpndgdoaa
