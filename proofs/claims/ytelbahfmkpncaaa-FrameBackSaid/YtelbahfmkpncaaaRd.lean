/- The reader of package wire: Open, and what tells without reading. -/
import Derived.Test.YtelbahfmkpncaaaWr4
import Derived.Deep.QuietTactic
import Derived.BigQuiet
namespace Go.Proofs.Ytelbahfmkpncaaa
open Go.RowKit

/-- A reader at block b of the bytes xs (in row g; g = b: in none), at the place p, with the fault fe at fa. -/
def Rdr (w : World) (b g : Nat) (xs : List UInt8) (p : Nat) (fe fa : Int) : Prop :=
  ∃ A c, w.heap[b]? = some (.cells #[.pointer (some ⟨b, 0, none⟩), .slice A xs.length c, .int .i64 p, .int .i64 fe, .int .i64 fa] 83 (0, 0)) ∧ OwnB w A c xs ∧ (A = none ∧ g = b ∨ A = some ⟨g, 0, none⟩)

theorem Rdr.chg {S : List Nat} {w w' : World} {b g : Nat} {xs : List UInt8} {p : Nat} {fe fa : Int} (h : Rdr w b g xs p fe fa) (hc : Chg S w w') (hb : b ∉ S) (hg : g ∉ S) : Rdr w' b g xs p fe fa := by
  obtain ⟨A, c, h1, h2, h3⟩ := h
  refine ⟨A, c, hc.at_ h1 hb, h2.chg hc ?_, h3⟩
  rintro a rfl
  rcases h3 with ⟨h3, _⟩ | h3
  · cases h3
  · cases h3; exact hg
theorem Rdr.lt {w : World} {b g : Nat} {xs : List UInt8} {p : Nat} {fe fa : Int} (h : Rdr w b g xs p fe fa) : b < w.heap.size ∧ g < w.heap.size := by
  obtain ⟨A, c, h1, h2, h3⟩ := h
  have hb := lt_of_heap h1
  rcases h3 with ⟨_, rfl⟩ | rfl
  · exact ⟨hb, hb⟩
  · rcases h2.form with ⟨h, _⟩ | ⟨g', cur, h, h4, _⟩
    · cases h
    · cases h; exact ⟨hb, lt_of_heap h4⟩

theorem someR : (Try.prog.info? 83).isSome = true := by kernel_rfl
theorem eqlPR (a : Addr) (w : World) : (binOp .eql 61 (.pointer (some a)) (.pointer (some a))).run Try.prog w = .ok (.bool true) w := by
  obtain ⟨j, hj⟩ := Option.isSome_iff_exists.1 someR
  exact run_eql_ptr_same w a Try.underlying61 hj

theorem flipw {P : Program} {f : FuncId} {args : Array Value} {w : World} {v : Value} (h : Calls P f args w fun e w' => e = .returned v ∧ w = w') : Calls P f args w fun e w' => e = .returned v ∧ w' = w :=
  h.mono fun _ _ hh => ⟨hh.1, hh.2.symm⟩
theorem Rdr.drewN {w : World} {b g : Nat} {xs : List UInt8} {p : Nat} {fe fa : Int} (h : Rdr w b g xs p fe fa) (n : Nat) : Rdr (w.drewN n) b g xs p fe fa := h.chg ((Chg.refl [] w).drewN n) (by simp) (by simp)

set_option maxHeartbeats 400000 in
theorem open_any (w : World) (B : Option Addr) (m d : Nat) (ys : List UInt8) (hr : Bs w B m ys) (hm : m ≤ 140737488351232) :
    Calls Try.prog 42 #[.slice B m d] w fun r w' => ∃ b g, r = .returned (.pointer (some ⟨b, 0, none⟩)) ∧ Rdr w' b g ys 0 0 0 ∧ Chg [] w w' ∧ w.heap.size ≤ b ∧ w.heap.size ≤ g := by
  have hl := hr.len
  go_enter Try.func42, Try.ntmps42
  go_wp2_with (go_at_call 58; refine (clone_any _ _ _ _ ys hr hm).mono ?_; rintro r w1 ⟨A1, c1, rfl, hF⟩)
  go_ret
  subst hl
  obtain ⟨h1, h2, h3⟩ := hF
  have h4 := h3.alloc (.cells #[.pointer (some ⟨w1.heap.size, 0, none⟩), .slice A1 ys.length c1, .int .i64 0, .int .i64 0, .int .i64 0] 83)
  have hs := h3.size
  have own : OwnB (w1.alloc (.cells #[.pointer (some ⟨w1.heap.size, 0, none⟩), .slice A1 ys.length c1, .int .i64 0, .int .i64 0, .int .i64 0] 83)) A1 c1 ys := h1.chg ((Chg.refl [] w1).alloc _) (by simp)
  rcases h1.form with ⟨rfl, _⟩ | ⟨g, cur, rfl, _⟩
  · exact ⟨_, _, rfl, ⟨none, c1, heap_alloc_new w1 _, own, .inl ⟨rfl, rfl⟩⟩, h4, hs, hs⟩
  · exact ⟨_, g, rfl, ⟨_, c1, heap_alloc_new w1 _, own, .inr rfl⟩, h4, hs, h2 _ rfl⟩

set_option maxHeartbeats 400000 in
theorem rmade_yes (w : World) (b g : Nat) (xs : List UInt8) (p : Nat) (fe fa : Int) (h : Rdr w b g xs p fe fa) :
    Calls Try.prog 74 #[.pointer (some ⟨b, 0, none⟩)] w fun e w' => e = .returned (.bool true) ∧ w = w' := by
  obtain ⟨A, c, h1, _, _⟩ := h
  have h0 := cell_of h1 0
  simp only [List.getElem?_toArray, List.getElem?_cons_zero] at h0
  have H := Lib.hid h1
  clear h1
  have h1 := eqlPR ⟨b, 0, none⟩
  go_enter Try.func74, Try.ntmps74
  go_wp2
  go_ret
  exact ⟨rfl, rfl⟩
set_option maxHeartbeats 400000 in
theorem rreads_any (w : World) (b g : Nat) (xs : List UInt8) (p : Nat) (fe fa : Int) (h : Rdr w b g xs p fe fa) :
    Calls Try.prog 63 #[.pointer (some ⟨b, 0, none⟩)] w fun e w' => e = .returned (.bool (fe == 0)) ∧ w = w' := by
  obtain ⟨A, c, h1, _, _⟩ := id h
  have h0 := cell_of h1 3
  simp only [List.getElem?_toArray, List.getElem?_cons_zero, List.getElem?_cons_succ] at h0
  have H := Lib.hid h1
  clear h1
  go_enter Try.func63, Try.ntmps63
  go_wp2_with (go_at_call 74; refine (rmade_yes _ b g xs p fe fa h).mono ?_; rintro r w' ⟨rfl, rfl⟩)
  go_ret
  exact ⟨rfl, rfl⟩
set_option maxHeartbeats 400000 in
theorem rfault_any (w : World) (b g : Nat) (xs : List UInt8) (p : Nat) (fe fa : Int) (h : Rdr w b g xs p fe fa) :
    Calls Try.prog 66 #[.pointer (some ⟨b, 0, none⟩)] w fun e w' => e = .returned (.agg #[.int .i64 fe, .int .i64 fa]) ∧ Chg [] w w' := by
  obtain ⟨A, c, h1, _, _⟩ := id h
  have h0 := cell_of h1 3
  have h2 := cell_of h1 4
  simp only [List.getElem?_toArray, List.getElem?_cons_zero, List.getElem?_cons_succ] at h0 h2
  have hb := lt_of_heap h1
  have H := Lib.hid h1
  clear h1
  have h' := h.chg ((Chg.refl [] w).alloc (.cells #[.int .i64 0, .int .i64 0] 32)) (by simp) (by simp)
  go_enter Try.func66, Try.ntmps66
  go_wp2_with (go_at_call 74; refine (rmade_yes _ b g xs p fe fa h').mono ?_; rintro r w' ⟨rfl, rfl⟩)
  refine bodyPost_ret (v := .agg #[.int .i64 fe, .int .i64 fa]) (by simp [results, Try.results66, go_sem]) rfl ?_
  exact ⟨rfl, (Chg.refl _ _).alloc _⟩

set_option maxHeartbeats 400000 in
theorem rend_left (w : World) (b g : Nat) (xs : List UInt8) (p : Nat) (fa : Int) (h : Rdr w b g xs p 0 fa) (hp : p < xs.length) (_hx : xs.length ≤ 140737488351232) :
    Calls Try.prog 45 #[.pointer (some ⟨b, 0, none⟩)] w fun e w' => e = .returned (.agg #[.int .i64 4, .int .i64 p]) ∧ Chg [] w w' := by
  obtain ⟨A, c, h1, _, _⟩ := id h
  have h0 := cell_of h1 2
  have h2 := cell_of h1 1
  simp only [List.getElem?_toArray, List.getElem?_cons_zero, List.getElem?_cons_succ] at h0 h2
  have hb := lt_of_heap h1
  have H := Lib.hid h1
  clear h1
  have h' := h.chg ((Chg.refl [] w).alloc (.cells #[.int .i64 0, .int .i64 0] 32)) (by simp) (by simp)
  go_enter Try.func45, Try.ntmps45
  go_wp2
  go_quiet ((go_at_call 63; exact Calls.quiet_of_same (flipw (rreads_any _ b g xs p 0 fa (h'.drewN _)))))
  go_wp2
  refine bodyPost_ret (v := .agg #[.int .i64 4, .int .i64 p]) (by simp [results, Try.results45, go_sem]) rfl ?_
  exact ⟨rfl, ((((Chg.refl _ _).alloc _).drewN _).setCell (.inr (Nat.le_refl _)) _).setCell (.inr (Nat.le_refl _)) _⟩
set_option maxHeartbeats 400000 in
theorem rend_done (w : World) (b g : Nat) (xs : List UInt8) (p : Nat) (fe fa : Int) (h : Rdr w b g xs p fe fa) (hp : fe = 0 → p = xs.length) (_hx : xs.length ≤ 140737488351232) :
    Calls Try.prog 45 #[.pointer (some ⟨b, 0, none⟩)] w fun e w' => e = .returned (.agg #[.int .i64 fe, .int .i64 fa]) ∧ Chg [] w w' := by
  obtain ⟨A, c, h1, _, _⟩ := id h
  have h0 := cell_of h1 2
  have h2 := cell_of h1 1
  simp only [List.getElem?_toArray, List.getElem?_cons_zero, List.getElem?_cons_succ] at h0 h2
  have hb := lt_of_heap h1
  have H := Lib.hid h1
  clear h1
  have hc := (Chg.refl [] w).alloc (.cells #[.int .i64 0, .int .i64 0] 32)
  have h' := h.chg hc (by simp) (by simp)
  have Hh := Lib.hid h'
  by_cases he : fe = 0
  · have hp' := hp he
    subst he hp'
    clear hp
    go_enter Try.func45, Try.ntmps45
    go_wp2
    go_quiet ((go_at_call 63; exact Calls.quiet_of_same (flipw (rreads_any _ b g xs xs.length 0 fa (Hh.out.drewN _)))))
    go_wp2_with (go_at_call 66; refine (rfault_any _ b g xs xs.length 0 fa (Hh.out.drewN _)).mono ?_; rintro r w1 ⟨rfl, hc1⟩; have q := hc1.at_ (heap_alloc_new w (.cells #[.int .i64 0, .int .i64 0] 32)) (by simp); have q0 := cell_of q 0; have q1 := cell_of q 1; have f0 := free_of q 0; have f1 := free_of q 1; simp only [List.getElem?_toArray, List.getElem?_cons_zero, List.getElem?_cons_succ] at q0 q1; have Q := Lib.hid q; clear q; have C1 := Lib.hid hc1; clear hc1)
    refine bodyPost_ret (v := .agg #[.int .i64 0, .int .i64 fa]) (by simp [results, Try.results45, go_sem, q0, q1]) rfl ?_
    exact ⟨rfl, (((hc.drewN nq).trans C1.out).setCell (.inr (Nat.le_refl _)) _).setCell (.inr (Nat.le_refl _)) _⟩
  · have he' : (fe == 0) = false := by simpa using he
    clear hp
    have hr : ∀ n, Calls Try.prog 63 #[.pointer (some ⟨b, 0, none⟩)] ((w.alloc (.cells #[.int .i64 0, .int .i64 0] 32)).drewN n) fun e w' => e = .returned (.bool false) ∧ w' = ((w.alloc (.cells #[.int .i64 0, .int .i64 0] 32)).drewN n) := fun n => by
      have := flipw (rreads_any _ b g xs p fe fa (Hh.out.drewN n))
      rwa [he'] at this
    have Hr := Lib.hid hr
    clear hr
    go_enter Try.func45, Try.ntmps45
    go_wp2
    go_quiet ((go_at_call 63; exact Calls.quiet_of_same (Hr.out _)))
    go_wp2_with (go_at_call 66; refine (rfault_any _ b g xs p fe fa (Hh.out.drewN _)).mono ?_; rintro r w1 ⟨rfl, hc1⟩; have q := hc1.at_ (heap_alloc_new w (.cells #[.int .i64 0, .int .i64 0] 32)) (by simp); have q0 := cell_of q 0; have q1 := cell_of q 1; have f0 := free_of q 0; have f1 := free_of q 1; simp only [List.getElem?_toArray, List.getElem?_cons_zero, List.getElem?_cons_succ] at q0 q1; have Q := Lib.hid q; clear q; have C1 := Lib.hid hc1; clear hc1)
    refine bodyPost_ret (v := .agg #[.int .i64 fe, .int .i64 fa]) (by simp [results, Try.results45, go_sem, q0, q1]) rfl ?_
    exact ⟨rfl, (((hc.drewN nq).trans C1.out).setCell (.inr (Nat.le_refl _)) _).setCell (.inr (Nat.le_refl _)) _⟩
end Go.Proofs.Ytelbahfmkpncaaa
