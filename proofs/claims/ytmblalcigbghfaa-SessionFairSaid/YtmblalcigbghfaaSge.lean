/- Receive: what its parts do. Receive: a way. Receive: a way. Receive: a way. Receive: a way. Receive: a way. Receive: a way. Receive: a way. -/
import Derived.Test.YtmblalcigbghfaaSga
import Derived.Test.YtmblalcigbghfaaSgd
namespace Go.Proofs.Ytmblalcigbghfaa
section
open Go.RowKit Go.Lib
set_option linter.unusedSimpArgs false
set_option linter.unusedVariables false


def meetQ (s : SQ) (f : Int) : SQ := if s.peer < f then turnQ s f else s
def dropQ (s : SQ) (a : Int) : SQ := if s.base ≤ a ∧ a < s.base + s.q.length then { s with q := s.q.drop (a - s.base + 1).toNat, base := a + 1 } else s
theorem drop_any (w : World) (b : Nat) (s : SQ) (h : QH w b s) (to : Int) (hb : 0 ≤ s.base) (hb2 : s.base ≤ 4611686018427387904) :
    Calls Try.prog 49 #[.pointer (some ⟨b, 4, none⟩), .int .i64 to] w fun e w' => e = .returned (.tuple #[]) ∧ QH w' b (dropQ s to) ∧ Chg [b] w w' := by
  by_cases hc : s.base ≤ to ∧ to < s.base + s.q.length
  · rw [dropQ, if_pos hc]
    exact drop_ok w b s h to hb hb2 hc _ (by omega)
  · rw [dropQ, if_neg hc]
    refine (drop_no w b s h to hb hb2 hc).mono ?_
    rintro e w' ⟨rfl, h1⟩
    exact ⟨rfl, h.chg h1 (by simp), h1.mono (by simp)⟩
theorem meetQ_base {s : SQ} {f : Int} (h : 1 ≤ s.base ∧ s.base ≤ 2000000) : 1 ≤ (meetQ s f).base ∧ (meetQ s f).base ≤ 2000000 := by unfold meetQ; split <;> simp [turnQ, h.1, h.2]
theorem dropQ_same (s : SQ) (a : Int) : (dropQ s a).ep = s.ep ∧ (dropQ s a).peer = s.peer ∧ (dropQ s a).turns = s.turns ∧ (dropQ s a).A = s.A ∧ (dropQ s a).n = s.n ∧ (dropQ s a).c = s.c ∧ (dropQ s a).came = s.came ∧ (dropQ s a).owes = s.owes := by unfold dropQ; split <;> simp
theorem meetQ_same (s : SQ) (f : Int) : (meetQ s f).ep = s.ep ∧ (meetQ s f).A = s.A ∧ (meetQ s f).n = s.n ∧ (meetQ s f).c = s.c := by unfold meetQ; split <;> simp [turnQ]
end
section
open Go.RowKit Go.Lib
set_option linter.unusedSimpArgs false
set_option linter.unusedVariables false


set_option maxHeartbeats 4000000 in
theorem serecv_none (w : World) (b : Nat) (s : SQ) (h : QH w b s) (f t m a : Int) (B : Option Addr) (n d : Nat) (hn : n ≤ 140737488351232) (hp : 0 ≤ s.peer) (hM : ¬ MindsQ s.peer f t m a n) : Calls Try.prog 28 #[.pointer (some ⟨b, 0, none⟩), .agg #[.int .i64 f, .int .i64 t, .int .i64 m, .int .i64 a, .slice B n d]] w fun e w' => e = .returned (.tuple #[]) ∧ Chg [] w w' := by
  obtain ⟨w1, hw1, c1, b1⟩ := news1 w (.cells #[.int .i64 f, .int .i64 t, .int .i64 m, .int .i64 a, .slice B n d] 35)
  have W1 := Lib.hid hw1
  have C1 := Lib.hid c1
  have B1 := Lib.hid b1
  have BL := Lib.hid h.lt
  have GL := Lib.hid (lt_of_heap b1)
  have H1 := Lib.hid (h.chg c1 (by simp))
  have MI := Lib.hid (fun (w' : World) (hc : Chg [] w1 w') => seminds_any w' b s ((h.chg c1 (by simp)).chg hc (by simp)) f t m a B n d hn hp)
  rw [decide_eq_false hM] at MI
  have y0 := cell_of b1 0
  have y1 := cell_of b1 1
  have y2 := cell_of b1 2
  have y3 := cell_of b1 3
  have y4 := cell_of b1 4
  simp only [List.getElem?_toArray, List.getElem?_cons_succ, List.getElem?_cons_zero] at y0 y1 y2 y3 y4
  have HPP := Lib.hid hp
  have HNN := Lib.hid hn
  clear hw1 c1 b1 h hn hp hM
  go_enter Try.func28, Try.ntmps28
  go_upto_region 1 with fail
  rw [← W1.out]
  have GG := Lib.hid (Nat.le_refl w.heap.size)
  generalize hg : w.heap.size = g at *
  go_wp2_with fail
  refine (semade_any w1 b s H1.out).mono ?_
  rintro e w2 ⟨rfl, rfl⟩
  go_wp2_with fail
  refine (MI.out w2 (Chg.refl [] w2)).mono ?_
  rintro e w3 ⟨rfl, hc⟩
  have H3 := Lib.hid (H1.out.chg hc (by simp))
  have B3 := Lib.hid (hc.at_ B1.out (by simp))
  have C3 := Lib.hid (C1.out.trans hc)
  clear hc MI W1 y0 y1 y2 y3 y4 H1 B1 C1
  go_wp2
  refine bodyPost_ret (results_none rfl _ _ _) rfl ?_
  exact ⟨rfl, C3.out⟩
end
section
open Go.RowKit Go.Lib
set_option linter.unusedSimpArgs false
set_option linter.unusedVariables false


set_option maxHeartbeats 8000000 in
set_option maxRecDepth 100000 in
theorem serecv_owe_t (w : World) (b : Nat) (s : SQ) (h : QH w b s) (f t m a : Int) (B : Option Addr) (n d : Nat) (hn : n ≤ 140737488351232) (hp : 0 ≤ s.peer) (hM : MindsQ s.peer f t m a n) (ht : 0 ≤ s.turns ∧ s.turns ≤ 4611686018427387904) (hbs : 1 ≤ s.base ∧ s.base ≤ 2000000) (hpf :  s.peer < f) (hte : ¬ t = s.ep) : Calls Try.prog 28 #[.pointer (some ⟨b, 0, none⟩), .agg #[.int .i64 f, .int .i64 t, .int .i64 m, .int .i64 a, .slice B n d]] w fun e w' => e = .returned (.tuple #[]) ∧ QH w' b { meetQ s f with owes := true } ∧ Chg [b] w w' := by
  have HPF := Lib.hid hpf
  have HBS := Lib.hid hbs
  have HTE := Lib.hid hte
  have HT := Lib.hid ht
  clear hpf hbs hte ht
  obtain ⟨w1, hw1, c1, b1⟩ := news1 w (.cells #[.int .i64 f, .int .i64 t, .int .i64 m, .int .i64 a, .slice B n d] 35)
  have W1 := Lib.hid hw1
  have C1 := Lib.hid c1
  have B1 := Lib.hid b1
  have BL := Lib.hid h.lt
  have GL := Lib.hid (lt_of_heap b1)
  have H1 := Lib.hid (h.chg c1 (by simp))
  have MI := Lib.hid (fun (w' : World) (hc : Chg [] w1 w') => seminds_any w' b s ((h.chg c1 (by simp)).chg hc (by simp)) f t m a B n d hn hp)
  rw [decide_eq_true hM] at MI
  have y0 := cell_of b1 0
  have y1 := cell_of b1 1
  have y2 := cell_of b1 2
  have y3 := cell_of b1 3
  have y4 := cell_of b1 4
  simp only [List.getElem?_toArray, List.getElem?_cons_succ, List.getElem?_cons_zero] at y0 y1 y2 y3 y4
  have HPP := Lib.hid hp
  have HNN := Lib.hid hn
  clear hw1 c1 b1 h hn hp hM
  go_enter Try.func28, Try.ntmps28
  go_upto_region 1 with fail
  rw [← W1.out]
  have GG := Lib.hid (Nat.le_refl w.heap.size)
  generalize hg : w.heap.size = g at *
  go_wp2_with fail
  refine (semade_any w1 b s H1.out).mono ?_
  rintro e w2 ⟨rfl, rfl⟩
  go_wp2_with fail
  refine (MI.out w2 (Chg.refl [] w2)).mono ?_
  rintro e w3 ⟨rfl, hc⟩
  have H3 := Lib.hid (H1.out.chg hc (by simp))
  have B3 := Lib.hid (hc.at_ B1.out (by simp))
  have C3 := Lib.hid (C1.out.trans hc)
  clear hc MI W1 y0 y1 y2 y3 y4 H1 B1 C1
  have y0 := cell_of B3.out 0
  simp only [List.getElem?_toArray, List.getElem?_cons_succ, List.getElem?_cons_zero] at y0
  have z2 := H3.out.get.2.2.1
  have hdp : decide (s.peer < f) = true := decide_eq_true HPF.out
  go_upto_region 2 with fail
  go_quiet (fail)
  have hq := (Chg.refl [] w3).drewN nq
  generalize w3.drewN nq = w4 at *
  have H4 := Lib.hid (H3.out.chg hq (by simp))
  have B4 := Lib.hid (hq.at_ B3.out (by simp))
  have C4 := Lib.hid ((Lib.hid (C3.out.mono (S' := [b]) (by simp))).out.trans (hq.mono (S' := [b]) (by simp)))
  clear hq y0 z2 hdp H3 B3 C3
  have y0 := cell_of B4.out 0
  simp only [List.getElem?_toArray, List.getElem?_cons_succ, List.getElem?_cons_zero] at y0
  go_wp2_with fail
  refine (turn_any w4 b s H4.out f HT.out).mono ?_
  rintro e w5 ⟨rfl, hq5, hc5⟩
  have hbg : g ≠ b := by have := BL.out; omega
  have H5 := Lib.hid hq5
  have B5 := Lib.hid (hc5.at_ B4.out (by simpa using hbg))
  have C5 := Lib.hid (C4.out.trans hc5)
  have S5 := Lib.hid (show turnQ s f = meetQ s f from (by unfold meetQ; rw [if_pos HPF.out]))
  clear hq5 hc5 hbg y0 H4 B4 C4
  rw [S5.out] at H5
  have ba5 := meetQ_base (f := f) HBS.out
  have ee := (meetQ_same s f).1
  obtain ⟨s5, hs5⟩ : ∃ x, meetQ s f = x := ⟨_, rfl⟩
  have h5 := H5.out
  rw [hs5] at h5 ba5 ee
  have H5 := Lib.hid h5
  have BA5 := Lib.hid ba5
  have EE := Lib.hid ee
  have HQ := Lib.hid hs5
  clear h5 ba5 ee hs5
  have y1 := cell_of B5.out 1
  simp only [List.getElem?_toArray, List.getElem?_cons_succ, List.getElem?_cons_zero] at y1
  have z1 := H5.out.get.2.1
  rw [EE.out] at z1
  have hde : (t != s.ep) = true := bne_iff_ne.2 HTE.out
  go_upto_region 4 with fail
  go_quiet (fail)
  have hq := (Chg.refl [] w5).drewN nq
  generalize w5.drewN nq = w6 at *
  have H6 := Lib.hid (H5.out.chg hq (by simp))
  have B6 := Lib.hid (hq.at_ B5.out (by simp))
  have C6 := Lib.hid (C5.out.trans (hq.mono (S' := [b]) (by simp)))
  clear hq y1 z1 hde H5 B5 C5
  go_wp2_with fail
  refine (owe_any w6 b s5 H6.out).mono ?_
  rintro e w7 ⟨rfl, hq7, hc7⟩
  have H7 := Lib.hid hq7
  have C7 := Lib.hid (C6.out.trans hc7)
  clear hq7 hc7
  go_wp2
  refine bodyPost_ret (results_none rfl _ _ _) rfl ?_
  exact ⟨rfl, by rw [HQ.out]; exact H7.out, C7.out⟩
end
section
open Go.RowKit Go.Lib
set_option linter.unusedSimpArgs false
set_option linter.unusedVariables false


set_option maxHeartbeats 8000000 in
set_option maxRecDepth 100000 in
theorem serecv_owe_f (w : World) (b : Nat) (s : SQ) (h : QH w b s) (f t m a : Int) (B : Option Addr) (n d : Nat) (hn : n ≤ 140737488351232) (hp : 0 ≤ s.peer) (hM : MindsQ s.peer f t m a n) (ht : 0 ≤ s.turns ∧ s.turns ≤ 4611686018427387904) (hbs : 1 ≤ s.base ∧ s.base ≤ 2000000) (hpf : ¬ s.peer < f) (hte : ¬ t = s.ep) : Calls Try.prog 28 #[.pointer (some ⟨b, 0, none⟩), .agg #[.int .i64 f, .int .i64 t, .int .i64 m, .int .i64 a, .slice B n d]] w fun e w' => e = .returned (.tuple #[]) ∧ QH w' b { meetQ s f with owes := true } ∧ Chg [b] w w' := by
  have HPF := Lib.hid hpf
  have HBS := Lib.hid hbs
  have HTE := Lib.hid hte
  have HT := Lib.hid ht
  clear hpf hbs hte ht
  obtain ⟨w1, hw1, c1, b1⟩ := news1 w (.cells #[.int .i64 f, .int .i64 t, .int .i64 m, .int .i64 a, .slice B n d] 35)
  have W1 := Lib.hid hw1
  have C1 := Lib.hid c1
  have B1 := Lib.hid b1
  have BL := Lib.hid h.lt
  have GL := Lib.hid (lt_of_heap b1)
  have H1 := Lib.hid (h.chg c1 (by simp))
  have MI := Lib.hid (fun (w' : World) (hc : Chg [] w1 w') => seminds_any w' b s ((h.chg c1 (by simp)).chg hc (by simp)) f t m a B n d hn hp)
  rw [decide_eq_true hM] at MI
  have y0 := cell_of b1 0
  have y1 := cell_of b1 1
  have y2 := cell_of b1 2
  have y3 := cell_of b1 3
  have y4 := cell_of b1 4
  simp only [List.getElem?_toArray, List.getElem?_cons_succ, List.getElem?_cons_zero] at y0 y1 y2 y3 y4
  have HPP := Lib.hid hp
  have HNN := Lib.hid hn
  clear hw1 c1 b1 h hn hp hM
  go_enter Try.func28, Try.ntmps28
  go_upto_region 1 with fail
  rw [← W1.out]
  have GG := Lib.hid (Nat.le_refl w.heap.size)
  generalize hg : w.heap.size = g at *
  go_wp2_with fail
  refine (semade_any w1 b s H1.out).mono ?_
  rintro e w2 ⟨rfl, rfl⟩
  go_wp2_with fail
  refine (MI.out w2 (Chg.refl [] w2)).mono ?_
  rintro e w3 ⟨rfl, hc⟩
  have H3 := Lib.hid (H1.out.chg hc (by simp))
  have B3 := Lib.hid (hc.at_ B1.out (by simp))
  have C3 := Lib.hid (C1.out.trans hc)
  clear hc MI W1 y0 y1 y2 y3 y4 H1 B1 C1
  have y0 := cell_of B3.out 0
  simp only [List.getElem?_toArray, List.getElem?_cons_succ, List.getElem?_cons_zero] at y0
  have z2 := H3.out.get.2.2.1
  have hdp : decide (s.peer < f) = false := decide_eq_false (by have := HPF.out; omega)
  go_upto_region 2 with fail
  go_quiet (fail)
  have hq := (Chg.refl [] w3).drewN nq
  generalize w3.drewN nq = w4 at *
  have H4 := Lib.hid (H3.out.chg hq (by simp))
  have B4 := Lib.hid (hq.at_ B3.out (by simp))
  have C4 := Lib.hid ((Lib.hid (C3.out.mono (S' := [b]) (by simp))).out.trans (hq.mono (S' := [b]) (by simp)))
  clear hq y0 z2 hdp H3 B3 C3
  have S5 := Lib.hid (show s = meetQ s f from (by unfold meetQ; rw [if_neg (by have := HPF.out; omega)]))
  have H5 : Hid (QH w4 b (meetQ s f)) := Lib.hid (by rw [← S5.out]; exact H4.out)
  have B5 := B4
  have C5 := C4
  clear H4 B4 C4
  generalize w4 = w5 at *
  have ba5 := meetQ_base (f := f) HBS.out
  have ee := (meetQ_same s f).1
  obtain ⟨s5, hs5⟩ : ∃ x, meetQ s f = x := ⟨_, rfl⟩
  have h5 := H5.out
  rw [hs5] at h5 ba5 ee
  have H5 := Lib.hid h5
  have BA5 := Lib.hid ba5
  have EE := Lib.hid ee
  have HQ := Lib.hid hs5
  clear h5 ba5 ee hs5
  have y1 := cell_of B5.out 1
  simp only [List.getElem?_toArray, List.getElem?_cons_succ, List.getElem?_cons_zero] at y1
  have z1 := H5.out.get.2.1
  rw [EE.out] at z1
  have hde : (t != s.ep) = true := bne_iff_ne.2 HTE.out
  go_upto_region 4 with fail
  go_quiet (fail)
  have hq := (Chg.refl [] w5).drewN nq
  generalize w5.drewN nq = w6 at *
  have H6 := Lib.hid (H5.out.chg hq (by simp))
  have B6 := Lib.hid (hq.at_ B5.out (by simp))
  have C6 := Lib.hid (C5.out.trans (hq.mono (S' := [b]) (by simp)))
  clear hq y1 z1 hde H5 B5 C5
  go_wp2_with fail
  refine (owe_any w6 b s5 H6.out).mono ?_
  rintro e w7 ⟨rfl, hq7, hc7⟩
  have H7 := Lib.hid hq7
  have C7 := Lib.hid (C6.out.trans hc7)
  clear hq7 hc7
  go_wp2
  refine bodyPost_ret (results_none rfl _ _ _) rfl ?_
  exact ⟨rfl, by rw [HQ.out]; exact H7.out, C7.out⟩
end
section
open Go.RowKit Go.Lib
set_option linter.unusedSimpArgs false
set_option linter.unusedVariables false


set_option maxHeartbeats 8000000 in
set_option maxRecDepth 100000 in
theorem serecv_zero_t (w : World) (b : Nat) (s : SQ) (h : QH w b s) (f t m a : Int) (B : Option Addr) (n d : Nat) (hn : n ≤ 140737488351232) (hp : 0 ≤ s.peer) (hM : MindsQ s.peer f t m a n) (ht : 0 ≤ s.turns ∧ s.turns ≤ 4611686018427387904) (hbs : 1 ≤ s.base ∧ s.base ≤ 2000000) (hpf :  s.peer < f) (hte : t = s.ep) (hmz : m = 0) : Calls Try.prog 28 #[.pointer (some ⟨b, 0, none⟩), .agg #[.int .i64 f, .int .i64 t, .int .i64 m, .int .i64 a, .slice B n d]] w fun e w' => e = .returned (.tuple #[]) ∧ QH w' b (dropQ (meetQ s f) a) ∧ Chg [b] w w' := by
  have HPF := Lib.hid hpf
  have HBS := Lib.hid hbs
  have HTE := Lib.hid hte
  have HT := Lib.hid ht
  clear hpf hbs hte ht
  have HMZ := Lib.hid hmz
  clear hmz
  obtain ⟨w1, hw1, c1, b1⟩ := news1 w (.cells #[.int .i64 f, .int .i64 t, .int .i64 m, .int .i64 a, .slice B n d] 35)
  have W1 := Lib.hid hw1
  have C1 := Lib.hid c1
  have B1 := Lib.hid b1
  have BL := Lib.hid h.lt
  have GL := Lib.hid (lt_of_heap b1)
  have H1 := Lib.hid (h.chg c1 (by simp))
  have MI := Lib.hid (fun (w' : World) (hc : Chg [] w1 w') => seminds_any w' b s ((h.chg c1 (by simp)).chg hc (by simp)) f t m a B n d hn hp)
  rw [decide_eq_true hM] at MI
  have y0 := cell_of b1 0
  have y1 := cell_of b1 1
  have y2 := cell_of b1 2
  have y3 := cell_of b1 3
  have y4 := cell_of b1 4
  simp only [List.getElem?_toArray, List.getElem?_cons_succ, List.getElem?_cons_zero] at y0 y1 y2 y3 y4
  have HPP := Lib.hid hp
  have HNN := Lib.hid hn
  clear hw1 c1 b1 h hn hp hM
  go_enter Try.func28, Try.ntmps28
  go_upto_region 1 with fail
  rw [← W1.out]
  have GG := Lib.hid (Nat.le_refl w.heap.size)
  generalize hg : w.heap.size = g at *
  go_wp2_with fail
  refine (semade_any w1 b s H1.out).mono ?_
  rintro e w2 ⟨rfl, rfl⟩
  go_wp2_with fail
  refine (MI.out w2 (Chg.refl [] w2)).mono ?_
  rintro e w3 ⟨rfl, hc⟩
  have H3 := Lib.hid (H1.out.chg hc (by simp))
  have B3 := Lib.hid (hc.at_ B1.out (by simp))
  have C3 := Lib.hid (C1.out.trans hc)
  clear hc MI W1 y0 y1 y2 y3 y4 H1 B1 C1
  have y0 := cell_of B3.out 0
  simp only [List.getElem?_toArray, List.getElem?_cons_succ, List.getElem?_cons_zero] at y0
  have z2 := H3.out.get.2.2.1
  have hdp : decide (s.peer < f) = true := decide_eq_true HPF.out
  go_upto_region 2 with fail
  go_quiet (fail)
  have hq := (Chg.refl [] w3).drewN nq
  generalize w3.drewN nq = w4 at *
  have H4 := Lib.hid (H3.out.chg hq (by simp))
  have B4 := Lib.hid (hq.at_ B3.out (by simp))
  have C4 := Lib.hid ((Lib.hid (C3.out.mono (S' := [b]) (by simp))).out.trans (hq.mono (S' := [b]) (by simp)))
  clear hq y0 z2 hdp H3 B3 C3
  have y0 := cell_of B4.out 0
  simp only [List.getElem?_toArray, List.getElem?_cons_succ, List.getElem?_cons_zero] at y0
  go_wp2_with fail
  refine (turn_any w4 b s H4.out f HT.out).mono ?_
  rintro e w5 ⟨rfl, hq5, hc5⟩
  have hbg : g ≠ b := by have := BL.out; omega
  have H5 := Lib.hid hq5
  have B5 := Lib.hid (hc5.at_ B4.out (by simpa using hbg))
  have C5 := Lib.hid (C4.out.trans hc5)
  have S5 := Lib.hid (show turnQ s f = meetQ s f from (by unfold meetQ; rw [if_pos HPF.out]))
  clear hq5 hc5 hbg y0 H4 B4 C4
  rw [S5.out] at H5
  have ba5 := meetQ_base (f := f) HBS.out
  have ee := (meetQ_same s f).1
  obtain ⟨s5, hs5⟩ : ∃ x, meetQ s f = x := ⟨_, rfl⟩
  have h5 := H5.out
  rw [hs5] at h5 ba5 ee
  have H5 := Lib.hid h5
  have BA5 := Lib.hid ba5
  have EE := Lib.hid ee
  have HQ := Lib.hid hs5
  clear h5 ba5 ee hs5
  have y1 := cell_of B5.out 1
  simp only [List.getElem?_toArray, List.getElem?_cons_succ, List.getElem?_cons_zero] at y1
  have z1 := H5.out.get.2.1
  rw [EE.out] at z1
  have hde : (t != s.ep) = false := by rw [HTE.out]; simp
  go_upto_region 4 with fail
  go_quiet (fail)
  have hq := (Chg.refl [] w5).drewN nq
  generalize w5.drewN nq = w6 at *
  have H6 := Lib.hid (H5.out.chg hq (by simp))
  have B6 := Lib.hid (hq.at_ B5.out (by simp))
  have C6 := Lib.hid (C5.out.trans (hq.mono (S' := [b]) (by simp)))
  clear hq y1 z1 hde H5 B5 C5
  have y3 := cell_of B6.out 3
  simp only [List.getElem?_toArray, List.getElem?_cons_succ, List.getElem?_cons_zero] at y3
  go_upto_region 6 with fail
  refine wp_region_held_drew (S := fun w' => w'.cell? ⟨g, 3, none⟩ = some (.int .i64 a)) (by kernel_rfl) (by exact y3) (fun hHeld => ?_)
  have D6 := Lib.hid (Chg.refl [] w6).drew
  replace H6 := Lib.hid (H6.out.chg D6.out (by simp))
  replace B6 := Lib.hid (D6.out.at_ B6.out (by simp))
  replace C6 := Lib.hid (C6.out.trans (D6.out.mono (S' := [b]) (by simp)))
  clear y3
  generalize w6.drew = wd at *
  refine sy 0 33 rfl rfl ?_
  try simp only [Act.put, sA, s0, s1]
  refine sy 1 34 rfl rfl ?_
  try simp only [Act.put, sA, s0, s1]
  refine sy 2 35 rfl rfl ?_
  try simp only [Act.put, sA, s0, s1]
  refine sy 3 36 rfl rfl ?_
  try simp only [Act.put, sA, s0, s1]
  refine sy 4 37 rfl rfl ?_
  try simp only [Act.put, sA, s0, s1]
  refine wpAnyH_ready (rs := [5]) (by kernel_rfl) (by simp) ?_
  refine AllReadyH.cons rfl (fun K hK => ?_) AllReadyH.nil
  replace hK := Lib.hid hK
  go_simp
  refine (drop_any wd b s5 H6.out a (by have := BA5.out; omega) (by have := BA5.out; omega)).mono ?_
  rintro e w7 ⟨rfl, hq7, hc7⟩
  have hbg : g ≠ b := by have := BL.out; omega
  have H7 := Lib.hid hq7
  have B7 := Lib.hid (hc7.at_ B6.out (by simpa using hbg))
  have C7 := Lib.hid (C6.out.trans hc7)
  clear hq7 hc7 hbg H6 B6 C6 hHeld
  refine hK.out _ _ (by have z := cell_of B7.out 3; simpa using z) (fun hHeld => ?_)
  clear hK K
  try simp only [Act.put, sA, s0, s1]
  refine wpAnyH_done (by kernel_rfl) ?_ _
  obtain ⟨s7, hs7⟩ : ∃ x, dropQ s5 a = x := ⟨_, rfl⟩
  have h7 := H7.out
  rw [hs7] at h7
  have H7 := Lib.hid h7
  have DQ := Lib.hid hs7
  clear h7 hs7
  have y2 := cell_of B7.out 2
  simp only [List.getElem?_toArray, List.getElem?_cons_succ, List.getElem?_cons_zero] at y2
  have hm0 : m = 0 := HMZ.out
  rw [hm0] at y2
  go_wp2
  refine bodyPost_ret (results_none rfl _ _ _) rfl ?_
  exact ⟨rfl, by rw [HQ.out, DQ.out]; exact H7.out, C7.out⟩
end
section
open Go.RowKit Go.Lib
set_option linter.unusedSimpArgs false
set_option linter.unusedVariables false


set_option maxHeartbeats 8000000 in
set_option maxRecDepth 100000 in
theorem serecv_zero_f (w : World) (b : Nat) (s : SQ) (h : QH w b s) (f t m a : Int) (B : Option Addr) (n d : Nat) (hn : n ≤ 140737488351232) (hp : 0 ≤ s.peer) (hM : MindsQ s.peer f t m a n) (ht : 0 ≤ s.turns ∧ s.turns ≤ 4611686018427387904) (hbs : 1 ≤ s.base ∧ s.base ≤ 2000000) (hpf : ¬ s.peer < f) (hte : t = s.ep) (hmz : m = 0) : Calls Try.prog 28 #[.pointer (some ⟨b, 0, none⟩), .agg #[.int .i64 f, .int .i64 t, .int .i64 m, .int .i64 a, .slice B n d]] w fun e w' => e = .returned (.tuple #[]) ∧ QH w' b (dropQ (meetQ s f) a) ∧ Chg [b] w w' := by
  have HPF := Lib.hid hpf
  have HBS := Lib.hid hbs
  have HTE := Lib.hid hte
  have HT := Lib.hid ht
  clear hpf hbs hte ht
  have HMZ := Lib.hid hmz
  clear hmz
  obtain ⟨w1, hw1, c1, b1⟩ := news1 w (.cells #[.int .i64 f, .int .i64 t, .int .i64 m, .int .i64 a, .slice B n d] 35)
  have W1 := Lib.hid hw1
  have C1 := Lib.hid c1
  have B1 := Lib.hid b1
  have BL := Lib.hid h.lt
  have GL := Lib.hid (lt_of_heap b1)
  have H1 := Lib.hid (h.chg c1 (by simp))
  have MI := Lib.hid (fun (w' : World) (hc : Chg [] w1 w') => seminds_any w' b s ((h.chg c1 (by simp)).chg hc (by simp)) f t m a B n d hn hp)
  rw [decide_eq_true hM] at MI
  have y0 := cell_of b1 0
  have y1 := cell_of b1 1
  have y2 := cell_of b1 2
  have y3 := cell_of b1 3
  have y4 := cell_of b1 4
  simp only [List.getElem?_toArray, List.getElem?_cons_succ, List.getElem?_cons_zero] at y0 y1 y2 y3 y4
  have HPP := Lib.hid hp
  have HNN := Lib.hid hn
  clear hw1 c1 b1 h hn hp hM
  go_enter Try.func28, Try.ntmps28
  go_upto_region 1 with fail
  rw [← W1.out]
  have GG := Lib.hid (Nat.le_refl w.heap.size)
  generalize hg : w.heap.size = g at *
  go_wp2_with fail
  refine (semade_any w1 b s H1.out).mono ?_
  rintro e w2 ⟨rfl, rfl⟩
  go_wp2_with fail
  refine (MI.out w2 (Chg.refl [] w2)).mono ?_
  rintro e w3 ⟨rfl, hc⟩
  have H3 := Lib.hid (H1.out.chg hc (by simp))
  have B3 := Lib.hid (hc.at_ B1.out (by simp))
  have C3 := Lib.hid (C1.out.trans hc)
  clear hc MI W1 y0 y1 y2 y3 y4 H1 B1 C1
  have y0 := cell_of B3.out 0
  simp only [List.getElem?_toArray, List.getElem?_cons_succ, List.getElem?_cons_zero] at y0
  have z2 := H3.out.get.2.2.1
  have hdp : decide (s.peer < f) = false := decide_eq_false (by have := HPF.out; omega)
  go_upto_region 2 with fail
  go_quiet (fail)
  have hq := (Chg.refl [] w3).drewN nq
  generalize w3.drewN nq = w4 at *
  have H4 := Lib.hid (H3.out.chg hq (by simp))
  have B4 := Lib.hid (hq.at_ B3.out (by simp))
  have C4 := Lib.hid ((Lib.hid (C3.out.mono (S' := [b]) (by simp))).out.trans (hq.mono (S' := [b]) (by simp)))
  clear hq y0 z2 hdp H3 B3 C3
  have S5 := Lib.hid (show s = meetQ s f from (by unfold meetQ; rw [if_neg (by have := HPF.out; omega)]))
  have H5 : Hid (QH w4 b (meetQ s f)) := Lib.hid (by rw [← S5.out]; exact H4.out)
  have B5 := B4
  have C5 := C4
  clear H4 B4 C4
  generalize w4 = w5 at *
  have ba5 := meetQ_base (f := f) HBS.out
  have ee := (meetQ_same s f).1
  obtain ⟨s5, hs5⟩ : ∃ x, meetQ s f = x := ⟨_, rfl⟩
  have h5 := H5.out
  rw [hs5] at h5 ba5 ee
  have H5 := Lib.hid h5
  have BA5 := Lib.hid ba5
  have EE := Lib.hid ee
  have HQ := Lib.hid hs5
  clear h5 ba5 ee hs5
  have y1 := cell_of B5.out 1
  simp only [List.getElem?_toArray, List.getElem?_cons_succ, List.getElem?_cons_zero] at y1
  have z1 := H5.out.get.2.1
  rw [EE.out] at z1
  have hde : (t != s.ep) = false := by rw [HTE.out]; simp
  go_upto_region 4 with fail
  go_quiet (fail)
  have hq := (Chg.refl [] w5).drewN nq
  generalize w5.drewN nq = w6 at *
  have H6 := Lib.hid (H5.out.chg hq (by simp))
  have B6 := Lib.hid (hq.at_ B5.out (by simp))
  have C6 := Lib.hid (C5.out.trans (hq.mono (S' := [b]) (by simp)))
  clear hq y1 z1 hde H5 B5 C5
  have y3 := cell_of B6.out 3
  simp only [List.getElem?_toArray, List.getElem?_cons_succ, List.getElem?_cons_zero] at y3
  go_upto_region 6 with fail
  refine wp_region_held_drew (S := fun w' => w'.cell? ⟨g, 3, none⟩ = some (.int .i64 a)) (by kernel_rfl) (by exact y3) (fun hHeld => ?_)
  have D6 := Lib.hid (Chg.refl [] w6).drew
  replace H6 := Lib.hid (H6.out.chg D6.out (by simp))
  replace B6 := Lib.hid (D6.out.at_ B6.out (by simp))
  replace C6 := Lib.hid (C6.out.trans (D6.out.mono (S' := [b]) (by simp)))
  clear y3
  generalize w6.drew = wd at *
  refine sy 0 33 rfl rfl ?_
  try simp only [Act.put, sA, s0, s1]
  refine sy 1 34 rfl rfl ?_
  try simp only [Act.put, sA, s0, s1]
  refine sy 2 35 rfl rfl ?_
  try simp only [Act.put, sA, s0, s1]
  refine sy 3 36 rfl rfl ?_
  try simp only [Act.put, sA, s0, s1]
  refine sy 4 37 rfl rfl ?_
  try simp only [Act.put, sA, s0, s1]
  refine wpAnyH_ready (rs := [5]) (by kernel_rfl) (by simp) ?_
  refine AllReadyH.cons rfl (fun K hK => ?_) AllReadyH.nil
  replace hK := Lib.hid hK
  go_simp
  refine (drop_any wd b s5 H6.out a (by have := BA5.out; omega) (by have := BA5.out; omega)).mono ?_
  rintro e w7 ⟨rfl, hq7, hc7⟩
  have hbg : g ≠ b := by have := BL.out; omega
  have H7 := Lib.hid hq7
  have B7 := Lib.hid (hc7.at_ B6.out (by simpa using hbg))
  have C7 := Lib.hid (C6.out.trans hc7)
  clear hq7 hc7 hbg H6 B6 C6 hHeld
  refine hK.out _ _ (by have z := cell_of B7.out 3; simpa using z) (fun hHeld => ?_)
  clear hK K
  try simp only [Act.put, sA, s0, s1]
  refine wpAnyH_done (by kernel_rfl) ?_ _
  obtain ⟨s7, hs7⟩ : ∃ x, dropQ s5 a = x := ⟨_, rfl⟩
  have h7 := H7.out
  rw [hs7] at h7
  have H7 := Lib.hid h7
  have DQ := Lib.hid hs7
  clear h7 hs7
  have y2 := cell_of B7.out 2
  simp only [List.getElem?_toArray, List.getElem?_cons_succ, List.getElem?_cons_zero] at y2
  have hm0 : m = 0 := HMZ.out
  rw [hm0] at y2
  go_wp2
  refine bodyPost_ret (results_none rfl _ _ _) rfl ?_
  exact ⟨rfl, by rw [HQ.out, DQ.out]; exact H7.out, C7.out⟩
end
section
open Go.RowKit Go.Lib
set_option linter.unusedSimpArgs false
set_option linter.unusedVariables false


set_option maxHeartbeats 8000000 in
set_option maxRecDepth 100000 in
theorem serecv_old_t (w : World) (b : Nat) (s : SQ) (h : QH w b s) (f t m a : Int) (B : Option Addr) (n d : Nat) (hn : n ≤ 140737488351232) (hp : 0 ≤ s.peer) (hM : MindsQ s.peer f t m a n) (ht : 0 ≤ s.turns ∧ s.turns ≤ 4611686018427387904) (hbs : 1 ≤ s.base ∧ s.base ≤ 2000000) (hpf :  s.peer < f) (hte : t = s.ep) (hmz : ¬ m = 0) (hcm : ∀ s7, s7 = dropQ (meetQ s f) a → (0 ≤ s7.came ∧ s7.came ≤ 1000000) ∧ ¬ s7.came + 1 = m) : Calls Try.prog 28 #[.pointer (some ⟨b, 0, none⟩), .agg #[.int .i64 f, .int .i64 t, .int .i64 m, .int .i64 a, .slice B n d]] w fun e w' => e = .returned (.tuple #[]) ∧ QH w' b { dropQ (meetQ s f) a with owes := true } ∧ Chg [b] w w' := by
  have HPF := Lib.hid hpf
  have HBS := Lib.hid hbs
  have HTE := Lib.hid hte
  have HT := Lib.hid ht
  clear hpf hbs hte ht
  have HMZ := Lib.hid hmz
  clear hmz
  have HCM := Lib.hid hcm
  clear hcm
  obtain ⟨w1, hw1, c1, b1⟩ := news1 w (.cells #[.int .i64 f, .int .i64 t, .int .i64 m, .int .i64 a, .slice B n d] 35)
  have W1 := Lib.hid hw1
  have C1 := Lib.hid c1
  have B1 := Lib.hid b1
  have BL := Lib.hid h.lt
  have GL := Lib.hid (lt_of_heap b1)
  have H1 := Lib.hid (h.chg c1 (by simp))
  have MI := Lib.hid (fun (w' : World) (hc : Chg [] w1 w') => seminds_any w' b s ((h.chg c1 (by simp)).chg hc (by simp)) f t m a B n d hn hp)
  rw [decide_eq_true hM] at MI
  have y0 := cell_of b1 0
  have y1 := cell_of b1 1
  have y2 := cell_of b1 2
  have y3 := cell_of b1 3
  have y4 := cell_of b1 4
  simp only [List.getElem?_toArray, List.getElem?_cons_succ, List.getElem?_cons_zero] at y0 y1 y2 y3 y4
  have HPP := Lib.hid hp
  have HNN := Lib.hid hn
  clear hw1 c1 b1 h hn hp hM
  go_enter Try.func28, Try.ntmps28
  go_upto_region 1 with fail
  rw [← W1.out]
  have GG := Lib.hid (Nat.le_refl w.heap.size)
  generalize hg : w.heap.size = g at *
  go_wp2_with fail
  refine (semade_any w1 b s H1.out).mono ?_
  rintro e w2 ⟨rfl, rfl⟩
  go_wp2_with fail
  refine (MI.out w2 (Chg.refl [] w2)).mono ?_
  rintro e w3 ⟨rfl, hc⟩
  have H3 := Lib.hid (H1.out.chg hc (by simp))
  have B3 := Lib.hid (hc.at_ B1.out (by simp))
  have C3 := Lib.hid (C1.out.trans hc)
  clear hc MI W1 y0 y1 y2 y3 y4 H1 B1 C1
  have y0 := cell_of B3.out 0
  simp only [List.getElem?_toArray, List.getElem?_cons_succ, List.getElem?_cons_zero] at y0
  have z2 := H3.out.get.2.2.1
  have hdp : decide (s.peer < f) = true := decide_eq_true HPF.out
  go_upto_region 2 with fail
  go_quiet (fail)
  have hq := (Chg.refl [] w3).drewN nq
  generalize w3.drewN nq = w4 at *
  have H4 := Lib.hid (H3.out.chg hq (by simp))
  have B4 := Lib.hid (hq.at_ B3.out (by simp))
  have C4 := Lib.hid ((Lib.hid (C3.out.mono (S' := [b]) (by simp))).out.trans (hq.mono (S' := [b]) (by simp)))
  clear hq y0 z2 hdp H3 B3 C3
  have y0 := cell_of B4.out 0
  simp only [List.getElem?_toArray, List.getElem?_cons_succ, List.getElem?_cons_zero] at y0
  go_wp2_with fail
  refine (turn_any w4 b s H4.out f HT.out).mono ?_
  rintro e w5 ⟨rfl, hq5, hc5⟩
  have hbg : g ≠ b := by have := BL.out; omega
  have H5 := Lib.hid hq5
  have B5 := Lib.hid (hc5.at_ B4.out (by simpa using hbg))
  have C5 := Lib.hid (C4.out.trans hc5)
  have S5 := Lib.hid (show turnQ s f = meetQ s f from (by unfold meetQ; rw [if_pos HPF.out]))
  clear hq5 hc5 hbg y0 H4 B4 C4
  rw [S5.out] at H5
  have ba5 := meetQ_base (f := f) HBS.out
  have ee := (meetQ_same s f).1
  obtain ⟨s5, hs5⟩ : ∃ x, meetQ s f = x := ⟨_, rfl⟩
  have h5 := H5.out
  rw [hs5] at h5 ba5 ee
  have H5 := Lib.hid h5
  have BA5 := Lib.hid ba5
  have EE := Lib.hid ee
  have HQ := Lib.hid hs5
  clear h5 ba5 ee hs5
  have y1 := cell_of B5.out 1
  simp only [List.getElem?_toArray, List.getElem?_cons_succ, List.getElem?_cons_zero] at y1
  have z1 := H5.out.get.2.1
  rw [EE.out] at z1
  have hde : (t != s.ep) = false := by rw [HTE.out]; simp
  go_upto_region 4 with fail
  go_quiet (fail)
  have hq := (Chg.refl [] w5).drewN nq
  generalize w5.drewN nq = w6 at *
  have H6 := Lib.hid (H5.out.chg hq (by simp))
  have B6 := Lib.hid (hq.at_ B5.out (by simp))
  have C6 := Lib.hid (C5.out.trans (hq.mono (S' := [b]) (by simp)))
  clear hq y1 z1 hde H5 B5 C5
  have y3 := cell_of B6.out 3
  simp only [List.getElem?_toArray, List.getElem?_cons_succ, List.getElem?_cons_zero] at y3
  go_upto_region 6 with fail
  refine wp_region_held_drew (S := fun w' => w'.cell? ⟨g, 3, none⟩ = some (.int .i64 a)) (by kernel_rfl) (by exact y3) (fun hHeld => ?_)
  have D6 := Lib.hid (Chg.refl [] w6).drew
  replace H6 := Lib.hid (H6.out.chg D6.out (by simp))
  replace B6 := Lib.hid (D6.out.at_ B6.out (by simp))
  replace C6 := Lib.hid (C6.out.trans (D6.out.mono (S' := [b]) (by simp)))
  clear y3
  generalize w6.drew = wd at *
  refine sy 0 33 rfl rfl ?_
  try simp only [Act.put, sA, s0, s1]
  refine sy 1 34 rfl rfl ?_
  try simp only [Act.put, sA, s0, s1]
  refine sy 2 35 rfl rfl ?_
  try simp only [Act.put, sA, s0, s1]
  refine sy 3 36 rfl rfl ?_
  try simp only [Act.put, sA, s0, s1]
  refine sy 4 37 rfl rfl ?_
  try simp only [Act.put, sA, s0, s1]
  refine wpAnyH_ready (rs := [5]) (by kernel_rfl) (by simp) ?_
  refine AllReadyH.cons rfl (fun K hK => ?_) AllReadyH.nil
  replace hK := Lib.hid hK
  go_simp
  refine (drop_any wd b s5 H6.out a (by have := BA5.out; omega) (by have := BA5.out; omega)).mono ?_
  rintro e w7 ⟨rfl, hq7, hc7⟩
  have hbg : g ≠ b := by have := BL.out; omega
  have H7 := Lib.hid hq7
  have B7 := Lib.hid (hc7.at_ B6.out (by simpa using hbg))
  have C7 := Lib.hid (C6.out.trans hc7)
  clear hq7 hc7 hbg H6 B6 C6 hHeld
  refine hK.out _ _ (by have z := cell_of B7.out 3; simpa using z) (fun hHeld => ?_)
  clear hK K
  try simp only [Act.put, sA, s0, s1]
  refine wpAnyH_done (by kernel_rfl) ?_ _
  obtain ⟨s7, hs7⟩ : ∃ x, dropQ s5 a = x := ⟨_, rfl⟩
  have h7 := H7.out
  rw [hs7] at h7
  have H7 := Lib.hid h7
  have DQ := Lib.hid hs7
  clear h7 hs7
  have y2 := cell_of B7.out 2
  simp only [List.getElem?_toArray, List.getElem?_cons_succ, List.getElem?_cons_zero] at y2
  have hm0 : ¬ m = 0 := HMZ.out
  go_wp2_with fail
  clear y2 hm0
  refine (owe_any w7 b s7 H7.out).mono ?_
  rintro e w8 ⟨rfl, hq8, hc8⟩
  have hbg : g ≠ b := by have := BL.out; omega
  have H8 := Lib.hid hq8
  have B8 := Lib.hid (hc8.at_ B7.out (by simpa using hbg))
  have C8 := Lib.hid (C7.out.trans hc8)
  clear hq8 hc8 hbg H7 B7 C7
  have y2 := cell_of B8.out 2
  simp only [List.getElem?_toArray, List.getElem?_cons_succ, List.getElem?_cons_zero] at y2
  have hcb := HCM.out s7 (by rw [HQ.out, DQ.out])
  have i9 : IntKind.i64.wrap (s7.came + 1) = s7.came + 1 := IntWalk.i64_in _ (by omega)
  clear hcb
  go_upto_region 9 with fail
  refine wp_region_held_drew (S := fun w' => w'.cell? ⟨g, 2, none⟩ = some (.int .i64 m)) (by kernel_rfl) (by exact y2) (fun hHeld => ?_)
  have D8 := Lib.hid (Chg.refl [] w8).drew
  replace H8 := Lib.hid (H8.out.chg D8.out (by simp))
  replace B8 := Lib.hid (D8.out.at_ B8.out (by simp))
  replace C8 := Lib.hid (C8.out.trans (D8.out.mono (S' := [b]) (by simp)))
  clear y2
  generalize w8.drew = we at *
  refine sy 0 44 rfl rfl ?_
  try simp only [Act.put, sA, s0, s1]
  refine sy 1 45 rfl rfl ?_
  try simp only [Act.put, sA, s0, s1]
  refine sy 2 46 rfl rfl ?_
  try simp only [Act.put, sA, s0, s1]
  refine sy 5 49 rfl rfl ?_
  try simp only [Act.put, sA, s0, s1]
  refine sy 6 50 rfl rfl ?_
  try simp only [Act.put, sA, s0, s1]
  refine wpAnyH_ready (rs := [3]) (by kernel_rfl) (by simp) ?_
  refine AllReadyH.cons rfl (fun K hK => ?_) AllReadyH.nil
  replace hK := Lib.hid hK
  go_simp
  refine (iload_any we b 32 s7.came H8.out.get.2.2.2.2.2.2.2.1).mono ?_
  rintro e w9 ⟨rfl, rfl⟩
  have hHeld2 := hHeld
  refine hK.out _ _ hHeld2 (fun hHeld => ?_)
  clear hK K
  try simp only [Act.put, sA, s0, s1]
  refine sy 4 48 rfl rfl ?_
  try simp only [Act.put, sA, s0, s1]
  refine sy 7 51 rfl rfl ?_
  try simp only [Act.put, sA, s0, s1]
  refine wpAnyH_done (by kernel_rfl) ?_ _
  have hne := (HCM.out s7 (by rw [HQ.out, DQ.out])).2
  have hd9 : decide (s7.came + 1 = m) = false := decide_eq_false hne
  go_wp2
  go_end0
  exact ⟨rfl, by rw [HQ.out, DQ.out]; exact H8.out, C8.out⟩
end
section
open Go.RowKit Go.Lib
set_option linter.unusedSimpArgs false
set_option linter.unusedVariables false


set_option maxHeartbeats 8000000 in
set_option maxRecDepth 100000 in
theorem serecv_old_f (w : World) (b : Nat) (s : SQ) (h : QH w b s) (f t m a : Int) (B : Option Addr) (n d : Nat) (hn : n ≤ 140737488351232) (hp : 0 ≤ s.peer) (hM : MindsQ s.peer f t m a n) (ht : 0 ≤ s.turns ∧ s.turns ≤ 4611686018427387904) (hbs : 1 ≤ s.base ∧ s.base ≤ 2000000) (hpf : ¬ s.peer < f) (hte : t = s.ep) (hmz : ¬ m = 0) (hcm : ∀ s7, s7 = dropQ (meetQ s f) a → (0 ≤ s7.came ∧ s7.came ≤ 1000000) ∧ ¬ s7.came + 1 = m) : Calls Try.prog 28 #[.pointer (some ⟨b, 0, none⟩), .agg #[.int .i64 f, .int .i64 t, .int .i64 m, .int .i64 a, .slice B n d]] w fun e w' => e = .returned (.tuple #[]) ∧ QH w' b { dropQ (meetQ s f) a with owes := true } ∧ Chg [b] w w' := by
  have HPF := Lib.hid hpf
  have HBS := Lib.hid hbs
  have HTE := Lib.hid hte
  have HT := Lib.hid ht
  clear hpf hbs hte ht
  have HMZ := Lib.hid hmz
  clear hmz
  have HCM := Lib.hid hcm
  clear hcm
  obtain ⟨w1, hw1, c1, b1⟩ := news1 w (.cells #[.int .i64 f, .int .i64 t, .int .i64 m, .int .i64 a, .slice B n d] 35)
  have W1 := Lib.hid hw1
  have C1 := Lib.hid c1
  have B1 := Lib.hid b1
  have BL := Lib.hid h.lt
  have GL := Lib.hid (lt_of_heap b1)
  have H1 := Lib.hid (h.chg c1 (by simp))
  have MI := Lib.hid (fun (w' : World) (hc : Chg [] w1 w') => seminds_any w' b s ((h.chg c1 (by simp)).chg hc (by simp)) f t m a B n d hn hp)
  rw [decide_eq_true hM] at MI
  have y0 := cell_of b1 0
  have y1 := cell_of b1 1
  have y2 := cell_of b1 2
  have y3 := cell_of b1 3
  have y4 := cell_of b1 4
  simp only [List.getElem?_toArray, List.getElem?_cons_succ, List.getElem?_cons_zero] at y0 y1 y2 y3 y4
  have HPP := Lib.hid hp
  have HNN := Lib.hid hn
  clear hw1 c1 b1 h hn hp hM
  go_enter Try.func28, Try.ntmps28
  go_upto_region 1 with fail
  rw [← W1.out]
  have GG := Lib.hid (Nat.le_refl w.heap.size)
  generalize hg : w.heap.size = g at *
  go_wp2_with fail
  refine (semade_any w1 b s H1.out).mono ?_
  rintro e w2 ⟨rfl, rfl⟩
  go_wp2_with fail
  refine (MI.out w2 (Chg.refl [] w2)).mono ?_
  rintro e w3 ⟨rfl, hc⟩
  have H3 := Lib.hid (H1.out.chg hc (by simp))
  have B3 := Lib.hid (hc.at_ B1.out (by simp))
  have C3 := Lib.hid (C1.out.trans hc)
  clear hc MI W1 y0 y1 y2 y3 y4 H1 B1 C1
  have y0 := cell_of B3.out 0
  simp only [List.getElem?_toArray, List.getElem?_cons_succ, List.getElem?_cons_zero] at y0
  have z2 := H3.out.get.2.2.1
  have hdp : decide (s.peer < f) = false := decide_eq_false (by have := HPF.out; omega)
  go_upto_region 2 with fail
  go_quiet (fail)
  have hq := (Chg.refl [] w3).drewN nq
  generalize w3.drewN nq = w4 at *
  have H4 := Lib.hid (H3.out.chg hq (by simp))
  have B4 := Lib.hid (hq.at_ B3.out (by simp))
  have C4 := Lib.hid ((Lib.hid (C3.out.mono (S' := [b]) (by simp))).out.trans (hq.mono (S' := [b]) (by simp)))
  clear hq y0 z2 hdp H3 B3 C3
  have S5 := Lib.hid (show s = meetQ s f from (by unfold meetQ; rw [if_neg (by have := HPF.out; omega)]))
  have H5 : Hid (QH w4 b (meetQ s f)) := Lib.hid (by rw [← S5.out]; exact H4.out)
  have B5 := B4
  have C5 := C4
  clear H4 B4 C4
  generalize w4 = w5 at *
  have ba5 := meetQ_base (f := f) HBS.out
  have ee := (meetQ_same s f).1
  obtain ⟨s5, hs5⟩ : ∃ x, meetQ s f = x := ⟨_, rfl⟩
  have h5 := H5.out
  rw [hs5] at h5 ba5 ee
  have H5 := Lib.hid h5
  have BA5 := Lib.hid ba5
  have EE := Lib.hid ee
  have HQ := Lib.hid hs5
  clear h5 ba5 ee hs5
  have y1 := cell_of B5.out 1
  simp only [List.getElem?_toArray, List.getElem?_cons_succ, List.getElem?_cons_zero] at y1
  have z1 := H5.out.get.2.1
  rw [EE.out] at z1
  have hde : (t != s.ep) = false := by rw [HTE.out]; simp
  go_upto_region 4 with fail
  go_quiet (fail)
  have hq := (Chg.refl [] w5).drewN nq
  generalize w5.drewN nq = w6 at *
  have H6 := Lib.hid (H5.out.chg hq (by simp))
  have B6 := Lib.hid (hq.at_ B5.out (by simp))
  have C6 := Lib.hid (C5.out.trans (hq.mono (S' := [b]) (by simp)))
  clear hq y1 z1 hde H5 B5 C5
  have y3 := cell_of B6.out 3
  simp only [List.getElem?_toArray, List.getElem?_cons_succ, List.getElem?_cons_zero] at y3
  go_upto_region 6 with fail
  refine wp_region_held_drew (S := fun w' => w'.cell? ⟨g, 3, none⟩ = some (.int .i64 a)) (by kernel_rfl) (by exact y3) (fun hHeld => ?_)
  have D6 := Lib.hid (Chg.refl [] w6).drew
  replace H6 := Lib.hid (H6.out.chg D6.out (by simp))
  replace B6 := Lib.hid (D6.out.at_ B6.out (by simp))
  replace C6 := Lib.hid (C6.out.trans (D6.out.mono (S' := [b]) (by simp)))
  clear y3
  generalize w6.drew = wd at *
  refine sy 0 33 rfl rfl ?_
  try simp only [Act.put, sA, s0, s1]
  refine sy 1 34 rfl rfl ?_
  try simp only [Act.put, sA, s0, s1]
  refine sy 2 35 rfl rfl ?_
  try simp only [Act.put, sA, s0, s1]
  refine sy 3 36 rfl rfl ?_
  try simp only [Act.put, sA, s0, s1]
  refine sy 4 37 rfl rfl ?_
  try simp only [Act.put, sA, s0, s1]
  refine wpAnyH_ready (rs := [5]) (by kernel_rfl) (by simp) ?_
  refine AllReadyH.cons rfl (fun K hK => ?_) AllReadyH.nil
  replace hK := Lib.hid hK
  go_simp
  refine (drop_any wd b s5 H6.out a (by have := BA5.out; omega) (by have := BA5.out; omega)).mono ?_
  rintro e w7 ⟨rfl, hq7, hc7⟩
  have hbg : g ≠ b := by have := BL.out; omega
  have H7 := Lib.hid hq7
  have B7 := Lib.hid (hc7.at_ B6.out (by simpa using hbg))
  have C7 := Lib.hid (C6.out.trans hc7)
  clear hq7 hc7 hbg H6 B6 C6 hHeld
  refine hK.out _ _ (by have z := cell_of B7.out 3; simpa using z) (fun hHeld => ?_)
  clear hK K
  try simp only [Act.put, sA, s0, s1]
  refine wpAnyH_done (by kernel_rfl) ?_ _
  obtain ⟨s7, hs7⟩ : ∃ x, dropQ s5 a = x := ⟨_, rfl⟩
  have h7 := H7.out
  rw [hs7] at h7
  have H7 := Lib.hid h7
  have DQ := Lib.hid hs7
  clear h7 hs7
  have y2 := cell_of B7.out 2
  simp only [List.getElem?_toArray, List.getElem?_cons_succ, List.getElem?_cons_zero] at y2
  have hm0 : ¬ m = 0 := HMZ.out
  go_wp2_with fail
  clear y2 hm0
  refine (owe_any w7 b s7 H7.out).mono ?_
  rintro e w8 ⟨rfl, hq8, hc8⟩
  have hbg : g ≠ b := by have := BL.out; omega
  have H8 := Lib.hid hq8
  have B8 := Lib.hid (hc8.at_ B7.out (by simpa using hbg))
  have C8 := Lib.hid (C7.out.trans hc8)
  clear hq8 hc8 hbg H7 B7 C7
  have y2 := cell_of B8.out 2
  simp only [List.getElem?_toArray, List.getElem?_cons_succ, List.getElem?_cons_zero] at y2
  have hcb := HCM.out s7 (by rw [HQ.out, DQ.out])
  have i9 : IntKind.i64.wrap (s7.came + 1) = s7.came + 1 := IntWalk.i64_in _ (by omega)
  clear hcb
  go_upto_region 9 with fail
  refine wp_region_held_drew (S := fun w' => w'.cell? ⟨g, 2, none⟩ = some (.int .i64 m)) (by kernel_rfl) (by exact y2) (fun hHeld => ?_)
  have D8 := Lib.hid (Chg.refl [] w8).drew
  replace H8 := Lib.hid (H8.out.chg D8.out (by simp))
  replace B8 := Lib.hid (D8.out.at_ B8.out (by simp))
  replace C8 := Lib.hid (C8.out.trans (D8.out.mono (S' := [b]) (by simp)))
  clear y2
  generalize w8.drew = we at *
  refine sy 0 44 rfl rfl ?_
  try simp only [Act.put, sA, s0, s1]
  refine sy 1 45 rfl rfl ?_
  try simp only [Act.put, sA, s0, s1]
  refine sy 2 46 rfl rfl ?_
  try simp only [Act.put, sA, s0, s1]
  refine sy 5 49 rfl rfl ?_
  try simp only [Act.put, sA, s0, s1]
  refine sy 6 50 rfl rfl ?_
  try simp only [Act.put, sA, s0, s1]
  refine wpAnyH_ready (rs := [3]) (by kernel_rfl) (by simp) ?_
  refine AllReadyH.cons rfl (fun K hK => ?_) AllReadyH.nil
  replace hK := Lib.hid hK
  go_simp
  refine (iload_any we b 32 s7.came H8.out.get.2.2.2.2.2.2.2.1).mono ?_
  rintro e w9 ⟨rfl, rfl⟩
  have hHeld2 := hHeld
  refine hK.out _ _ hHeld2 (fun hHeld => ?_)
  clear hK K
  try simp only [Act.put, sA, s0, s1]
  refine sy 4 48 rfl rfl ?_
  try simp only [Act.put, sA, s0, s1]
  refine sy 7 51 rfl rfl ?_
  try simp only [Act.put, sA, s0, s1]
  refine wpAnyH_done (by kernel_rfl) ?_ _
  have hne := (HCM.out s7 (by rw [HQ.out, DQ.out])).2
  have hd9 : decide (s7.came + 1 = m) = false := decide_eq_false hne
  go_wp2
  go_end0
  exact ⟨rfl, by rw [HQ.out, DQ.out]; exact H8.out, C8.out⟩
end
end Go.Proofs.Ytmblalcigbghfaa
