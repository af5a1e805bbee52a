/- The document's Read of all bytes. -/
import Derived.Test.YtpgelolchfglbaaPreada
import Derived.Deep.QuietTactic
import Derived.BigQuiet
namespace Go.Proofs.Ytpgelolchfglbaa
open Go.RowKit Go.Lib
set_option linter.unusedSimpArgs false
set_option linter.unusedVariables false


theorem qfour_at {w : World} {g o n : Nat} {ys : List UInt8} (h : Bs w (some ⟨g, o, none⟩) n ys) (p n' c' : Nat) (hp : p + 4 ≤ n) (hn : 4 ≤ n') :
    Calls Try.prog 73 #[.slice (some ⟨g, o + p, none⟩) n' c'] w fun e w' => e = .returned (.int .i64 (numB ((ys.drop p).take 4) : Int)) ∧ Chg [] w w' := by
  have hl := h.len
  obtain ⟨g2, o2, e, k0, k1, k2, k3⟩ := h.at4 p ys[p] ys[p + 1] ys[p + 2] ys[p + 3] (List.getElem?_eq_getElem (by omega)) (List.getElem?_eq_getElem (by omega)) (List.getElem?_eq_getElem (by omega)) (List.getElem?_eq_getElem (by omega))
  cases e
  have e4 : (ys.drop p).take 4 = [ys[p], ys[p + 1], ys[p + 2], ys[p + 3]] := by
    rw [List.drop_eq_getElem_cons (by omega), List.drop_eq_getElem_cons (by omega), List.drop_eq_getElem_cons (by omega), List.drop_eq_getElem_cons (by omega)]
    rfl
  rw [e4, numB_four]
  exact qfour_cells w g (o + p) n' c' _ _ _ _ (UInt8.toNat_lt _) (UInt8.toNat_lt _) (UInt8.toNat_lt _) (UInt8.toNat_lt _) hn k0 k1 k2 k3
theorem numB_two {ys : List UInt8} {a b : UInt8} (h0 : ys[0]? = some a) (h1 : ys[1]? = some b) : numB (ys.take 2) = 256 * a.toNat + b.toNat := by
  match ys, h0, h1 with
  | x :: y :: l, h0, h1 =>
    simp at h0 h1
    subst h0 h1
    simp [numB]
    omega

theorem qread_short (w : World) (A : Option Addr) (n c : Nat) (ys : List UInt8) (h : Bs w A n ys) (h2 : ys.length < 2) :
    Calls Try.prog 38 #[.slice A n c] w fun e w' => ∃ A' c', e = .returned (.tuple #[.slice A' (readS ys).1.length c', .agg #[.int .i64 (readS ys).2.1, .int .i64 (readS ys).2.2]]) ∧ OwnK spanTy w' A' c' (readS ys).1 ∧ (∀ a, A' = some a → w.heap.size ≤ a.block) ∧ Chg [] w w' := by
  rw [readS_short h2]
  have hl := h.len
  subst hl
  have h3 : (ys.length : Int) < 2 := by omega
  clear h h2
  go_enter Try.func38, Try.ntmps38
  go_wp2
  refine bodyPost_ret (v := .tuple #[.slice none 0 0, .agg #[.int .i64 4, .int .i64 ys.length]]) (by simp [results, Try.results38, go_sem]) rfl ?_
  exact ⟨none, 0, rfl, OwnK.none_ _, by simp, (Chg.refl _ _).alloc _⟩

set_option maxHeartbeats 2000000 in
set_option maxRecDepth 100000 in
theorem qread_odd (w : World) (g o n c : Nat) (ys : List UInt8) (h : Bs w (some ⟨g, o, none⟩) n ys) (hn : n ≤ 140737488351232) (hc : n ≤ c) (hc2 : c ≤ 9223372036854775807) (hs : ¬ ys.length < 2) (many : Nat) (hm : many = numB (ys.take 2)) (hl : ys.length ≠ 2 + 9 * many) (V : Int) (hV : (ys.length < 2 + 9 * many ∧ V = ys.length) ∨ (2 + 9 * many < ys.length ∧ V = ((2 + 9 * many : Nat) : Int))) :
    Calls Try.prog 38 #[.slice (some ⟨g, o, none⟩) n c] w fun e w' => ∃ A' c', e = .returned (.tuple #[.slice A' 0 c', .agg #[.int .i64 4, .int .i64 V]]) ∧ OwnK spanTy w' A' c' [] ∧ (∀ a, A' = some a → w.heap.size ≤ a.block) ∧ Chg [] w w' := by
  have hl0 := h.len
  subst hl0
  have hx0 := List.getElem?_eq_getElem (l := ys) (i := 0) (by omega)
  have hx1 := List.getElem?_eq_getElem (l := ys) (i := 1) (by omega)
  obtain ⟨w1, hw1, c1, b1⟩ := news1 w (.cells #[.int .i64 0, .int .i64 0] 47)
  have W1 := Lib.hid hw1
  have HX := Lib.hid (h.chg c1 (by simp))
  have C1 := Lib.hid c1
  have F1 := Lib.hid b1
  have hg0 : g < w.heap.size := by
    obtain ⟨a, e, hc⟩ := h.cells 0 _ (List.getElem?_eq_getElem (by omega))
    cases e
    have := lt_of_cell hc
    rwa [block_add] at this
  have HG1 := Lib.hid (Nat.lt_of_lt_of_le hg0 c1.size)
  obtain ⟨_, e0, k0⟩ := (h.chg c1 (by simp)).cells 0 _ hx0
  cases e0
  obtain ⟨_, e1, k1⟩ := (h.chg c1 (by simp)).cells 1 _ hx1
  cases e1
  rw [add_lit] at k0 k1
  unfold bv at k0 k1
  simp only [Nat.add_zero] at k0
  have hmm := hm.trans (numB_two hx0 hx1)
  generalize ys[0] = x0 at *
  generalize ys[1] = x1 at *
  have b0l := x0.toNat_lt
  have b1l := x1.toNat_lt
  have h2 : (2 : Int) ≤ (ys.length : Int) := by omega
  have h3 : ¬ ((ys.length : Int) < 2) := by omega
  have h30 : (0 : Int) < (ys.length : Int) := by omega
  have h31 : (1 : Int) < (ys.length : Int) := by omega
  have hwb0 : IntKind.i64.wrap (x0.toNat : Int) = (x0.toNat : Int) := IntWalk.i64_in _ (by omega)
  have hwb1 : IntKind.i64.wrap (x1.toNat : Int) = (x1.toNat : Int) := IntWalk.i64_in _ (by omega)
  have hwm : IntKind.i64.wrap (256 * (x0.toNat : Int)) = 256 * (x0.toNat : Int) := IntWalk.i64_in _ (by omega)
  have hws : IntKind.i64.wrap (256 * (x0.toNat : Int) + (x1.toNat : Int)) = (many : Int) := by rw [IntWalk.i64_in _ (by omega)]; omega
  have hmk : many < 65536 := by omega
  have HM := Lib.hid hm
  clear hw1 c1 b1 h hg0 hx0 hx1 hm
  rcases hV with ⟨hv, rfl⟩ | ⟨hv, rfl⟩
  · have hlt : (ys.length : Int) < 2 + 9 * (many : Int) := by omega
    clear hv hl hmm
    go_enter Try.func38, Try.ntmps38
    go_upto_region 3 with fail
    rw [← W1.out]
    clear W1
    go_quiet (fail)
    generalize hw2 : w1.drewN _ = w2 at *
    have C2 := Lib.hid (show Chg [] w w2 by rw [← hw2]; exact C1.out.drewN _)
    have F2 := Lib.hid (show w2.heap[w.heap.size]? = some (.cells #[.int .i64 0, .int .i64 0] 47 (0, 0)) by rw [← hw2]; exact F1.out)
    clear hw2 k0 k1 hwb0 hwb1 hwm hws
    generalize hs0 : w.heap.size = s0 at *
    have HS0 := Lib.hid (Nat.le_of_eq hs0)
    clear hs0
    have hb := F2.out
    have z0 := cell_of hb 0
    have z1 := cell_of hb 1
    have f0 := free_of hb 0
    have f1 := free_of hb 1
    simp only [List.getElem?_toArray, List.getElem?_cons_succ, List.getElem?_cons_zero] at z0 z1
    have e0 := heap_setCell_same _ s0 0 _ _ (.int .i64 4) hb
    have e1 := heap_setCell_same _ s0 1 _ _ (.int .i64 ys.length) e0
    have HE : Hid (((w2.setCell ⟨s0, 0, none⟩ (.int .i64 4)).setCell ⟨s0, 1, none⟩ (.int .i64 ys.length)).heap[s0]? = some (.cells #[.int .i64 4, .int .i64 ys.length] 47 (0, 0))) := Lib.hid (by simpa using e1)
    have CW := Lib.hid (Chg.put (Chg.put C2.out HS0.out 0 (.int .i64 4)) HS0.out 1 (.int .i64 ys.length))
    clear hb e0 e1
    go_wp2
    generalize (w2.setCell ⟨s0, 0, none⟩ (.int .i64 4)).setCell ⟨s0, 1, none⟩ (.int .i64 ys.length) = W at *
    clear z0 z1 f0 f1
    have z0 := cell_of HE.out 0
    have z1 := cell_of HE.out 1
    simp only [List.getElem?_toArray, List.getElem?_cons_succ, List.getElem?_cons_zero] at z0 z1
    refine bodyPost_ret (v := .tuple #[.slice none 0 0, .agg #[.int .i64 4, .int .i64 ys.length]]) (by simp [results, Try.results38, go_sem, z0, z1]) rfl ?_
    exact ⟨none, 0, rfl, OwnK.none_ _, by simp, CW.out⟩
  · have hlt : ¬ (ys.length : Int) < 2 + 9 * (many : Int) := by omega
    have hlt2 : 2 + 9 * (many : Int) < (ys.length : Int) := by omega
    clear hv hl hmm
    go_enter Try.func38, Try.ntmps38
    go_upto_region 3 with fail
    rw [← W1.out]
    clear W1
    go_quiet (fail)
    generalize hw2 : w1.drewN _ = w2 at *
    have C2 := Lib.hid (show Chg [] w w2 by rw [← hw2]; exact C1.out.drewN _)
    have F2 := Lib.hid (show w2.heap[w.heap.size]? = some (.cells #[.int .i64 0, .int .i64 0] 47 (0, 0)) by rw [← hw2]; exact F1.out)
    clear hw2 k0 k1 hwb0 hwb1 hwm hws
    generalize hs0 : w.heap.size = s0 at *
    have HS0 := Lib.hid (Nat.le_of_eq hs0)
    clear hs0
    have hb := F2.out
    have z0 := cell_of hb 0
    have z1 := cell_of hb 1
    have f0 := free_of hb 0
    have f1 := free_of hb 1
    simp only [List.getElem?_toArray, List.getElem?_cons_succ, List.getElem?_cons_zero] at z0 z1
    have e0 := heap_setCell_same _ s0 0 _ _ (.int .i64 4) hb
    have e1 := heap_setCell_same _ s0 1 _ _ (.int .i64 (2 + 9 * (many : Int))) e0
    have HE : Hid (((w2.setCell ⟨s0, 0, none⟩ (.int .i64 4)).setCell ⟨s0, 1, none⟩ (.int .i64 (2 + 9 * (many : Int)))).heap[s0]? = some (.cells #[.int .i64 4, .int .i64 (2 + 9 * (many : Int))] 47 (0, 0))) := Lib.hid (by simpa using e1)
    have CW := Lib.hid (Chg.put (Chg.put C2.out HS0.out 0 (.int .i64 4)) HS0.out 1 (.int .i64 (2 + 9 * (many : Int))))
    clear hb e0 e1
    go_wp2
    generalize (w2.setCell ⟨s0, 0, none⟩ (.int .i64 4)).setCell ⟨s0, 1, none⟩ (.int .i64 (2 + 9 * (many : Int))) = W at *
    clear z0 z1 f0 f1
    have z0 := cell_of HE.out 0
    have z1 := cell_of HE.out 1
    simp only [List.getElem?_toArray, List.getElem?_cons_succ, List.getElem?_cons_zero] at z0 z1
    refine bodyPost_ret (v := .tuple #[.slice none 0 0, .agg #[.int .i64 4, .int .i64 (2 + 9 * (many : Int))]]) (by simp [results, Try.results38, go_sem, z0, z1]) rfl ?_
    exact ⟨none, 0, rfl, OwnK.none_ _, by simp, CW.out⟩

set_option maxHeartbeats 4000000 in
set_option maxRecDepth 100000 in
theorem qread_loop (w : World) (g o n c : Nat) (ys : List UInt8) (h : Bs w (some ⟨g, o, none⟩) n ys) (hn : n ≤ 140737488351232) (hc : n ≤ c) (hc2 : c ≤ 9223372036854775807) (many : Nat) (hm : many = numB (ys.take 2)) (hl : ys.length = 2 + 9 * many) (L : List (Int × Int × Int)) (E : Int) (hck : (chkS (spansR ys many) = 0 ∧ L = spansR ys many ∧ E = 0) ∨ (chkS (spansR ys many) = 2 ∧ L = [] ∧ E = 2)) :
    Calls Try.prog 38 #[.slice (some ⟨g, o, none⟩) n c] w fun e w' => ∃ A' c', e = .returned (.tuple #[.slice A' L.length c', .agg #[.int .i64 E, .int .i64 0]]) ∧ OwnK spanTy w' A' c' L ∧ (∀ a, A' = some a → w.heap.size ≤ a.block) ∧ Chg [] w w' := by
  have HCK := Lib.hid hck
  clear hck
  have hl0 := h.len
  subst hl0
  have hx0 := List.getElem?_eq_getElem (l := ys) (i := 0) (by omega)
  have hx1 := List.getElem?_eq_getElem (l := ys) (i := 1) (by omega)
  obtain ⟨w1, hw1, c1, b1⟩ := news1 w (.cells #[.int .i64 0, .int .i64 0] 47)
  have W1 := Lib.hid hw1
  have HX := Lib.hid (h.chg c1 (by simp))
  have C1 := Lib.hid c1
  have F1 := Lib.hid b1
  have hg0 : g < w.heap.size := by
    obtain ⟨a, e, hc⟩ := h.cells 0 _ (List.getElem?_eq_getElem (by omega))
    cases e
    have := lt_of_cell hc
    rwa [block_add] at this
  have HG1 := Lib.hid (Nat.lt_of_lt_of_le hg0 c1.size)
  obtain ⟨_, e0, k0⟩ := (h.chg c1 (by simp)).cells 0 _ hx0
  cases e0
  obtain ⟨_, e1, k1⟩ := (h.chg c1 (by simp)).cells 1 _ hx1
  cases e1
  rw [add_lit] at k0 k1
  unfold bv at k0 k1
  simp only [Nat.add_zero] at k0
  have hmm := hm.trans (numB_two hx0 hx1)
  generalize ys[0] = x0 at *
  generalize ys[1] = x1 at *
  have b0l := x0.toNat_lt
  have b1l := x1.toNat_lt
  have h2 : (2 : Int) ≤ (ys.length : Int) := by omega
  have h3 : ¬ ((ys.length : Int) < 2) := by omega
  have h30 : (0 : Int) < (ys.length : Int) := by omega
  have h31 : (1 : Int) < (ys.length : Int) := by omega
  have hwb0 : IntKind.i64.wrap (x0.toNat : Int) = (x0.toNat : Int) := IntWalk.i64_in _ (by omega)
  have hwb1 : IntKind.i64.wrap (x1.toNat : Int) = (x1.toNat : Int) := IntWalk.i64_in _ (by omega)
  have hwm : IntKind.i64.wrap (256 * (x0.toNat : Int)) = 256 * (x0.toNat : Int) := IntWalk.i64_in _ (by omega)
  have hws : IntKind.i64.wrap (256 * (x0.toNat : Int) + (x1.toNat : Int)) = (many : Int) := by rw [IntWalk.i64_in _ (by omega)]; omega
  have hmk : many < 65536 := by omega
  have HM := Lib.hid hm
  clear hw1 c1 b1 h hg0 hx0 hx1 hm
  have hlt : ¬ (ys.length : Int) < 2 + 9 * (many : Int) := by omega
  have hlt2 : ¬ 2 + 9 * (many : Int) < (ys.length : Int) := by omega
  have HL := Lib.hid hl
  clear hmm
  go_enter Try.func38, Try.ntmps38
  go_upto_region 3 with fail
  rw [← W1.out]
  clear W1
  go_quiet (fail)
  generalize hw2 : w1.drewN _ = w2 at *
  have HX2 := Lib.hid (show Bs w2 (some ⟨g, o, none⟩) ys.length ys by rw [← hw2]; exact HX.out.chg ((Chg.refl [] w1).drewN _) (by simp))
  have C2 := Lib.hid (show Chg [] w w2 by rw [← hw2]; exact C1.out.drewN _)
  have F2 := Lib.hid (show w2.heap[w.heap.size]? = some (.cells #[.int .i64 0, .int .i64 0] 47 (0, 0)) by rw [← hw2]; exact F1.out)
  have HG0 := Lib.hid (show g < w2.heap.size by rw [← hw2]; exact HG1.out)
  clear hw2 k0 k1 hwb0 hwb1 hwm hws HX C1 F1 HG1 hl
  generalize hs0 : w.heap.size = s0 at *
  have HS0 := Lib.hid (Nat.le_of_eq hs0)
  clear hs0
  go_wp2
  go_loopw [5, 6] (fun v5 v6 wr => ∃ (k : Nat) (B : Option Addr) (cc : Nat), k ≤ many ∧ v5 = .slice B k cc ∧ v6 = .int .i64 (k : Int) ∧ Hid (OwnK spanTy wr B cc (spansR ys k) ∧ (∀ a, B = some a → w2.heap.size ≤ a.block) ∧ Chg [] w2 wr)) (fun _ v6 _ => many - (RowKit.intOf v6).toNat)
  case atStart => exact ⟨0, none, 0, Nat.zero_le _, rfl, rfl, OwnK.none_ _, by simp, Chg.refl _ _⟩
  case round =>
    obtain ⟨k, B, cc, hk, rfl, rfl, HI⟩ := hrel
    generalize wr = w4 at *
    clear wr
    by_cases hlt3 : k < many
    · have hl := HL.out
      have hq : 2 + 9 * k < ys.length := by omega
      have ex := List.getElem?_eq_getElem hq
      have HX4 := Lib.hid (HX2.out.chg HI.out.2.2 (by simp))
      obtain ⟨ad, eA, hcell⟩ := HX4.out.cells _ _ ex
      cases eA
      rw [add_lit] at hcell
      have e1 : (ys.drop (2 + 9 * k)).take 1 = [ys[2 + 9 * k]] := by rw [List.drop_eq_getElem_cons hq]; rfl
      generalize ys[2 + 9 * k] = x at *
      have E1 := Lib.hid e1
      unfold bv at hcell
      have j1 : (0 : Int) ≤ 2 + 9 * (k : Int) := by omega
      have j2 : 2 + 9 * (k : Int) ≤ (ys.length : Int) := by omega
      have j3 : ¬ c = 2 + 9 * k := by omega
      have j4 : ¬ 2 + 9 * k = c := by omega
      have j5 : (2 + 9 * (k : Int)).toNat = 2 + 9 * k := by omega
      have j6 : 2 + 9 * k ≤ ys.length := by omega
      have hsp : spanAt ys (2 + 9 * k) = ((x.toNat : Int), (numB ((ys.drop (2 + 9 * k + 1)).take 4) : Int), (numB ((ys.drop (2 + 9 * k + 5)).take 4) : Int)) := by
        unfold spanAt
        rw [E1.out]
        simp [numB]
      have HSP := Lib.hid hsp
      have LR1 := Lib.hid (spansR_len ys k)
      have BND := Lib.hid (show (k + 1) * 400 ≤ 140737488355327 by omega)
      have HWX := Lib.hid (show IntKind.i64.wrap (x.toNat : Int) = (x.toNat : Int) from IntWalk.i64_in _ (by have := x.toNat_lt; omega))
      have hgB : g ∉ (B.map (·.block)).toList := by
        cases B with
        | none => simp
        | some a =>
          have h1 := HI.out.2.1 a rfl
          have h2 := HG0.out
          simp
          omega
      have HB := Lib.hid hgB
      have n1p : 9 ≤ ys.length - (2 + 9 * k) := by omega
      have c1p : 9 ≤ c - (2 + 9 * k) := by omega
      have hk4 : ∀ w', Chg (B.map (·.block)).toList w4 w' → w'.cell? ⟨g, o + (2 + 9 * k), none⟩ = some (.int .u8 (x.toNat : Int)) := fun w' h => h.cell hcell (by exact HB.out)
      have HK := Lib.hid hk4
      have Q1 := Lib.hid (fun (w' : World) (hc : Chg [] w4 w') (n' c' : Nat) (hn' : 4 ≤ n') => qfour_at (HX4.out.chg hc (by simp)) (2 + 9 * k + 1) n' c' (by omega) hn')
      have Q2 := Lib.hid (fun (w' : World) (hc : Chg [] w4 w') (n' c' : Nat) (hn' : 4 ≤ n') => qfour_at (HX4.out.chg hc (by simp)) (2 + 9 * k + 5) n' c' (by omega) hn')
      clear ex e1 hq hsp hk4 hcell hgB hl
      generalize (ys.drop (2 + 9 * k + 1)).take 4 = l1 at *
      generalize (ys.drop (2 + 9 * k + 5)).take 4 = l2 at *
      go_upto_region 13 with fail
      clear j1 j2 j3 j4 j5 j6
      generalize hn1 : ys.length - (2 + 9 * k) = n1 at *
      generalize hc1 : c - (2 + 9 * k) = cc1 at *
      clear hn1 hc1
      have j0 : (0 : Int) < (n1 : Int) := by omega
      have j1 : (1 : Int) ≤ (n1 : Int) := by omega
      have j2 : (5 : Int) ≤ (n1 : Int) := by omega
      have j3 : ¬ cc1 = 1 := by omega
      have j4 : ¬ 1 = cc1 := by omega
      have j5 : ¬ cc1 = 5 := by omega
      have j6 : ¬ 5 = cc1 := by omega
      have j0n : 0 < n1 := by omega
      have j7 : 1 ≤ n1 := by omega
      have j8 : 5 ≤ n1 := by omega
      have n4 : 4 ≤ n1 - 1 := by omega
      have n5 : 4 ≤ n1 - 5 := by omega
      refine wp_region_held_drew (S := fun w' => Chg (B.map (·.block)).toList w4 w') (by kernel_rfl) (Chg.refl _ w4).drew (fun hHeld => ?_)
      have C4 := Lib.hid ((Chg.refl [] w4).drew)
      clear hHeld
      refine step_yes 0 53 ?_ (C4.out.mono (by simp)) rfl rfl (by kernel_rfl) (by kernel_rfl) (by kernel_rfl) (fun _ _ _ h => h) (by rfl) ?_ ?_
      rotate_left
      · (intro w hSw; (try dsimp only at hSw); go_simp; try with_reducible rfl)
      try simp only [Act.put, List.setIfInBounds_toArray, List.set_cons_zero, List.set_cons_succ]
      refine step_yes 1 54 ?_ (C4.out.mono (by simp)) rfl rfl (by kernel_rfl) (by kernel_rfl) (by kernel_rfl) (fun _ _ _ h => h) (by rfl) ?_ ?_
      rotate_left
      · (intro w hSw; (try dsimp only at hSw); go_simp; try with_reducible rfl)
      try simp only [Act.put, List.setIfInBounds_toArray, List.set_cons_zero, List.set_cons_succ]
      refine step_yes 2 55 ?_ (C4.out.mono (by simp)) rfl rfl (by kernel_rfl) (by kernel_rfl) (by kernel_rfl) (fun _ _ _ h => h) (by rfl) ?_ ?_
      rotate_left
      · (intro w hSw; (try dsimp only at hSw); go_simp; try with_reducible rfl)
      try simp only [Act.put, List.setIfInBounds_toArray, List.set_cons_zero, List.set_cons_succ]
      refine step_yes 3 56 ?_ (C4.out.mono (by simp)) rfl rfl (by kernel_rfl) (by kernel_rfl) (by kernel_rfl) (fun _ _ _ h => h) (by rfl) ?_ ?_
      rotate_left
      · (intro w hSw; (try dsimp only at hSw); have hq0 := HK.out _ hSw; go_simp; try with_reducible rfl)
      try simp only [Act.put, List.setIfInBounds_toArray, List.set_cons_zero, List.set_cons_succ]
      refine step_yes 4 57 ?_ (C4.out.mono (by simp)) rfl rfl (by kernel_rfl) (by kernel_rfl) (by kernel_rfl) (fun _ _ _ h => h) (by rfl) ?_ ?_
      rotate_left
      · (intro w hSw; (try dsimp only at hSw); go_simp; try with_reducible rfl)
      try simp only [Act.put, List.setIfInBounds_toArray, List.set_cons_zero, List.set_cons_succ]
      refine step_yes 5 58 ?_ (C4.out.mono (by simp)) rfl rfl (by kernel_rfl) (by kernel_rfl) (by kernel_rfl) (fun _ _ _ h => h) (by rfl) ?_ ?_
      rotate_left
      · (intro w hSw; (try dsimp only at hSw); go_simp; try with_reducible rfl)
      try simp only [Act.put, List.setIfInBounds_toArray, List.set_cons_zero, List.set_cons_succ]
      refine step_yes 6 59 ?_ (C4.out.mono (by simp)) rfl rfl (by kernel_rfl) (by kernel_rfl) (by kernel_rfl) (fun _ _ _ h => h) (by rfl) ?_ ?_
      rotate_left
      · (intro w hSw; (try dsimp only at hSw); go_simp; try with_reducible rfl)
      try simp only [Act.put, List.setIfInBounds_toArray, List.set_cons_zero, List.set_cons_succ]
      refine step_yes 8 61 ?_ (C4.out.mono (by simp)) rfl rfl (by kernel_rfl) (by kernel_rfl) (by kernel_rfl) (fun _ _ _ h => h) (by rfl) ?_ ?_
      rotate_left
      · (intro w hSw; (try dsimp only at hSw); go_simp; try with_reducible rfl)
      try simp only [Act.put, List.setIfInBounds_toArray, List.set_cons_zero, List.set_cons_succ]
      refine step_yes 9 62 ?_ (C4.out.mono (by simp)) rfl rfl (by kernel_rfl) (by kernel_rfl) (by kernel_rfl) (fun _ _ _ h => h) (by rfl) ?_ ?_
      rotate_left
      · (intro w hSw; (try dsimp only at hSw); go_simp; try with_reducible rfl)
      try simp only [Act.put, List.setIfInBounds_toArray, List.set_cons_zero, List.set_cons_succ]
      refine wpAnyH_ready (rs := [7]) (by kernel_rfl) (by simp) ?_
      refine AllReadyH.cons rfl (fun K hK => ?_) AllReadyH.nil
      replace hK := Lib.hid hK
      go_simp
      refine (Q1.out _ C4.out _ _ n4).mono ?_
      rintro e w9 ⟨rfl, hc⟩
      have C9 := Lib.hid (C4.out.trans hc)
      clear hc C4
      refine hK.out _ _ (C9.out.mono (by simp)) (fun hHeld => ?_)
      clear hK K
      try simp only [Act.put, List.setIfInBounds_toArray, List.set_cons_zero, List.set_cons_succ]
      clear hHeld
      refine wpAnyH_ready (rs := [10]) (by kernel_rfl) (by simp) ?_
      refine AllReadyH.cons rfl (fun K hK => ?_) AllReadyH.nil
      replace hK := Lib.hid hK
      go_simp
      refine (Q2.out _ C9.out _ _ n5).mono ?_
      rintro e v9 ⟨rfl, hc⟩
      have C8 := Lib.hid (C9.out.trans hc)
      clear hc C9
      refine hK.out _ _ (C8.out.mono (by simp)) (fun hHeld => ?_)
      clear hK K
      try simp only [Act.put, List.setIfInBounds_toArray, List.set_cons_zero, List.set_cons_succ]
      clear hHeld
      refine step_yes 11 64 ?_ (C8.out.mono (by simp)) rfl rfl (by kernel_rfl) (by kernel_rfl) (by kernel_rfl) (fun _ _ _ h => h) (by rfl) ?_ ?_
      rotate_left
      · (intro w hSw; (try dsimp only at hSw); go_simp; try with_reducible rfl)
      try simp only [Act.put, List.setIfInBounds_toArray, List.set_cons_zero, List.set_cons_succ]
      refine wpAnyH_ready (rs := [12]) (by kernel_rfl) (by simp) ?_
      refine AllReadyH.cons rfl (fun K hK => ?_) AllReadyH.nil
      replace hK := Lib.hid hK
      go_simp
      obtain ⟨w5, hw5, c5, b5⟩ := news1 v9 (.cells #[.int .i64 (x.toNat : Int), .int .i64 (numB l1 : Int), .int .i64 (numB l2 : Int)] 65)
      simp only [HWX.out]
      rw [← hw5]
      have C5 := Lib.hid (C8.out.trans c5)
      refine hK.out _ _ (C5.out.mono (by simp)) (fun hHeld => ?_)
      clear hK K hHeld
      try simp only [Act.put, List.setIfInBounds_toArray, List.set_cons_zero, List.set_cons_succ]
      have R5 := Lib.hid (OwnK.of (R := spanTy) (c := 1) (full := [((x.toNat : Int), (numB l1 : Int), (numB l2 : Int))]) (xs := [((x.toNat : Int), (numB l1 : Int), (numB l2 : Int))]) b5 (Nat.le_refl _) (by decide) rfl rfl).reads
      have O5 := Lib.hid (HI.out.1.chg C5.out (by simp))
      clear hw5 c5 b5 C8
      refine wpAnyH_ready (rs := [13]) (by kernel_rfl) (by simp) ?_
      refine AllReadyH.cons rfl (fun K hK => ?_) AllReadyH.nil
      replace hK := Lib.hid hK
      refine step_appK (R := spanTy) rfl (.tmp 53) (.tmp 65) rfl rfl O5.out LR1.out rfl R5.out BND.out ?_
      intro A2 c2 w7 u2 d2 e2
      have C7 := Lib.hid ((C5.out.mono (S' := (B.map (·.block)).toList) (by simp)).grown d2 (fun k hk => .inl (by simp [hk])))
      have AO := app_own (w := w2) HI.out.2.1 (HI.out.2.2.trans C5.out) d2 e2
      have U2 := Lib.hid u2
      have AO2 := Lib.hid AO
      clear u2 d2 e2 AO
      refine hK.out _ _ C7.out (fun hHeld => ?_)
      clear hK K hHeld
      try simp only [Act.put, List.setIfInBounds_toArray, List.set_cons_zero, List.set_cons_succ]
      refine step_yes 14 5 ?_ C7.out rfl rfl (by kernel_rfl) (by kernel_rfl) (by kernel_rfl) (fun _ _ _ h => h) (by rfl) ?_ ?_
      rotate_left
      · (intro w hSw; (try dsimp only at hSw); go_simp; try with_reducible rfl)
      try simp only [Act.put, List.setIfInBounds_toArray, List.set_cons_zero, List.set_cons_succ]
      refine wpAnyH_done (by kernel_rfl) ?_ _
      go_wp2
      go_round
      case rel => exact ⟨k + 1, A2, c2, by omega, by congr 1, by go_num, by rw [spansR_succ, HSP.out]; exact U2.out, AO2.out.1, AO2.out.2⟩
      case measure => simp [RowKit.intOf]; omega
    · obtain rfl : k = many := by omega
      have hw2l := HI.out.1.reads
      go_wp2_with fail
      refine (qacheck_any _ B _ cc (spansR ys k) (by have := hw2l; rwa [spansR_len] at this) (by omega)).mono ?_
      rintro e w5 ⟨rfl, hc5⟩
      rcases HCK.out with ⟨hk0, hL, hE⟩ | ⟨hk0, hL, hE⟩
      · rw [hk0]
        clear HCK hw2l hk0
        subst hL hE
        have hb := hc5.at_ (HI.out.2.2.at_ F2.out (by simp)) (by simp)
        have z0 := cell_of hb 0
        have z1 := cell_of hb 1
        have f0 := free_of hb 0
        have f1 := free_of hb 1
        simp only [List.getElem?_toArray, List.getElem?_cons_succ, List.getElem?_cons_zero] at z0 z1
        have e0 := heap_setCell_same _ s0 0 _ _ (.int .i64 0) hb
        have e1 := heap_setCell_same _ s0 1 _ _ (.int .i64 0) e0
        have HE : Hid (((w5.setCell ⟨s0, 0, none⟩ (.int .i64 0)).setCell ⟨s0, 1, none⟩ (.int .i64 0)).heap[s0]? = some (.cells #[.int .i64 0, .int .i64 0] 47 (0, 0))) := Lib.hid (by simpa using e1)
        have CW := Lib.hid (Chg.put (Chg.put (C2.out.trans (HI.out.2.2.trans hc5)) HS0.out 0 (.int .i64 0)) HS0.out 1 (.int .i64 0))
        have CS := ((Chg.refl [s0] w5).setCell (p := ⟨s0, 0, none⟩) (.inl (by simp)) (.int .i64 0)).setCell (p := ⟨s0, 1, none⟩) (.inl (by simp)) (.int .i64 0)
        have OF := Lib.hid ((HI.out.1.chg hc5 (by simp)).chg CS (fun a ha => by
          have h1 := HI.out.2.1 a ha
          have h2 := lt_of_heap F2.out
          simp
          omega))
        have NF := Lib.hid (fun a (ha : B = some a) => Nat.le_trans C2.out.size (HI.out.2.1 a ha))
        have LF := Lib.hid (spansR_len ys k)
        clear hb e0 e1 CS hc5
        go_wp2
        generalize (w5.setCell ⟨s0, 0, none⟩ (.int .i64 0)).setCell ⟨s0, 1, none⟩ (.int .i64 0) = W at *
        clear z0 z1 f0 f1
        have z0 := cell_of HE.out 0
        have z1 := cell_of HE.out 1
        simp only [List.getElem?_toArray, List.getElem?_cons_succ, List.getElem?_cons_zero] at z0 z1
        refine bodyPost_ret (v := .tuple #[.slice B k cc, .agg #[.int .i64 0, .int .i64 0]]) (by simp [results, Try.results38, go_sem, z0, z1]) rfl ?_
        exact ⟨B, cc, by rw [LF.out], OF.out, NF.out, CW.out⟩
      · rw [hk0]
        clear HCK hw2l hk0
        subst hL hE
        have hb := hc5.at_ (HI.out.2.2.at_ F2.out (by simp)) (by simp)
        have z0 := cell_of hb 0
        have z1 := cell_of hb 1
        have f0 := free_of hb 0
        have f1 := free_of hb 1
        simp only [List.getElem?_toArray, List.getElem?_cons_succ, List.getElem?_cons_zero] at z0 z1
        have e0 := heap_setCell_same _ s0 0 _ _ (.int .i64 2) hb
        have e1 := heap_setCell_same _ s0 1 _ _ (.int .i64 0) e0
        have HE : Hid (((w5.setCell ⟨s0, 0, none⟩ (.int .i64 2)).setCell ⟨s0, 1, none⟩ (.int .i64 0)).heap[s0]? = some (.cells #[.int .i64 2, .int .i64 0] 47 (0, 0))) := Lib.hid (by simpa using e1)
        have CW := Lib.hid (Chg.put (Chg.put (C2.out.trans (HI.out.2.2.trans hc5)) HS0.out 0 (.int .i64 2)) HS0.out 1 (.int .i64 0))
        have CS := ((Chg.refl [s0] w5).setCell (p := ⟨s0, 0, none⟩) (.inl (by simp)) (.int .i64 2)).setCell (p := ⟨s0, 1, none⟩) (.inl (by simp)) (.int .i64 0)
        clear hb e0 e1 CS hc5
        go_wp2
        generalize (w5.setCell ⟨s0, 0, none⟩ (.int .i64 2)).setCell ⟨s0, 1, none⟩ (.int .i64 0) = W at *
        clear z0 z1 f0 f1
        have z0 := cell_of HE.out 0
        have z1 := cell_of HE.out 1
        simp only [List.getElem?_toArray, List.getElem?_cons_succ, List.getElem?_cons_zero] at z0 z1
        refine bodyPost_ret (v := .tuple #[.slice none 0 0, .agg #[.int .i64 2, .int .i64 0]]) (by simp [results, Try.results38, go_sem, z0, z1]) rfl ?_
        exact ⟨none, 0, rfl, OwnK.none_ _, by simp, CW.out⟩

theorem qread_any (w : World) (A : Option Addr) (n c : Nat) (ys : List UInt8) (h : Bs w A n ys) (hn : n ≤ 140737488351232) (hc : n ≤ c) (hc2 : c ≤ 9223372036854775807) :
    Calls Try.prog 38 #[.slice A n c] w fun e w' => ∃ A' c', e = .returned (.tuple #[.slice A' (readS ys).1.length c', .agg #[.int .i64 (readS ys).2.1, .int .i64 (readS ys).2.2]]) ∧ OwnK spanTy w' A' c' (readS ys).1 ∧ (∀ a, A' = some a → w.heap.size ≤ a.block) ∧ Chg [] w w' := by
  have hl := h.len
  by_cases h2 : ys.length < 2
  · exact qread_short w A n c ys h h2
  obtain ⟨g, o, rfl⟩ := h.base (by omega)
  by_cases h3 : ys.length = 2 + 9 * numB (ys.take 2)
  · rcases readS_fine h2 h3 with ⟨hk, e⟩ | ⟨hk, e⟩ <;> rw [e]
    · exact qread_loop w g o n c ys h hn hc hc2 _ rfl h3 _ _ (.inl ⟨hk, rfl, rfl⟩)
    · exact qread_loop w g o n c ys h hn hc hc2 _ rfl h3 _ _ (.inr ⟨hk, rfl, rfl⟩)
  · rw [readS_odd h2 h3]
    refine qread_odd w g o n c ys h hn hc hc2 h2 _ rfl h3 _ ?_
    by_cases h4 : ys.length < 2 + 9 * numB (ys.take 2)
    · exact .inl ⟨h4, if_pos h4⟩
    · exact .inr ⟨by omega, if_neg h4⟩
end Go.Proofs.Ytpgelolchfglbaa
