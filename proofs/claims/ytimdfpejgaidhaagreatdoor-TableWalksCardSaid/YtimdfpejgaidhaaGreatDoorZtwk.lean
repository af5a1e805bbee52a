/- The document's parent. A tree, checked entry by entry: purely. The document's Less. The document's Check of an effect. The document's Check. The kit's CopyEntries. The document's own. A tree of which a path is moved: purely. A row that the library has sorted, or cleared from some place on. path.compare: what it draws only grows. A strict order of any elements: what is told once, in order, is one list; one more put where it belongs; what follows its equal left out. No memory here, no function of the program. -/
import Derived.Test.YtimdfpejgaidhaaGreatDoorZtwj
import Derived.Deep.Cut
import Derived.Test.YtimdfpejgaidhaaGreatDoorZtwc
import Derived.Test.YtimdfpejgaidhaaGreatDoorZtwb
import Derived.Deep.RegionHeld3
import Derived.Test.YtimdfpejgaidhaaGreatDoorZtwd
import Derived.Test.YtimdfpejgaidhaaGreatDoorZtwh
import Derived.Test.YtimdfpejgaidhaaGreatDoorZtwa
import Derived.Shelf.SlSortCmp.NoneTotal
import Derived.Lib.SlicesCompact
import Derived.Lib.SliceRun
namespace Go.Proofs.YtimdfpejgaidhaaGreatDoor
section
open Go.RowKit Go.Lib
set_option linter.unusedSimpArgs false
set_option linter.unusedVariables false

set_option maxRecDepth 100000 in
set_option maxHeartbeats 4000000 in
theorem tdparent_any (w : World) (A : Option Addr) (c : Nat) (xs : List EnT) (es : List EnP) (p : List UInt8) (hp : p.length ≤ 900000) (h : RdK enTy w A xs.length xs) (hx : EnsR w xs es) (hn : xs.length ≤ 100000) :
    Calls Tryz.prog 47 #[.slice A xs.length c, .string (strOf p)] w fun r w' => r = .returned (.int .i64 (parT es p)) ∧ Chg [] w w' := by
  have PX := Lib.hid (qparent_any w p hp)
  have GE : Hid (∀ w', Chg [] w w' → _) := Lib.hid (fun w' hc => tdget_any w' A c xs es (parentL p) (h.chg hc (by simp)) (hx.chg hc) hn)
  generalize hv : parT es p = v
  have HV := Lib.hid hv
  clear h hx hn hp hv
  go_enter Tryz.func47, Tryz.ntmps47
  go_wp2_with fail
  refine PX.out.mono ?_
  rintro r w1 ⟨rfl, hc⟩
  have C := Lib.hid hc
  clear hc PX
  rcases hh : hasParent p with _ | _
  · obtain rfl : v = 0 := by rw [← HV.out]; unfold parT; rw [hh]; rfl
    clear hh HV
    go_wp2
    go_ret
    exact ⟨rfl, C.out⟩
  have HP := Lib.hid hh
  clear hh
  go_wp2_with fail
  refine (GE.out w1 C.out).mono ?_
  rintro r w2 ⟨A', c', rfl, _, hc⟩
  replace C := Lib.hid (C.out.trans hc)
  clear hc GE
  rcases hg : getT es (parentL p) with _ | e
  · obtain rfl : v = 6 := by rw [← HV.out]; unfold parT; rw [HP.out, hg]; rfl
    clear hg HV
    go_wp2
    go_ret
    have hc0 : Chg [] w2 (w2.alloc (.cells #[.int .i64 0, .int .i64 0, .slice A' 0 c'] 25)) := by
      obtain ⟨w3, hw, hc, b3⟩ := news1 w2 (.cells #[.int .i64 0, .int .i64 0, .slice A' 0 c'] 25)
      rw [← hw]; exact hc
    exact ⟨rfl, C.out.trans hc0⟩
  · have VE : Hid (v = if e.k = 2 then 0 else 12) := Lib.hid (by rw [← HV.out]; unfold parT; rw [HP.out, hg]; rfl)
    obtain ⟨w3, hw, hc, b3⟩ := news1 w2 (.cells #[.int .i64 e.k, .int .i64 e.m, .slice A' e.b.length c'] 25)
    have W3 := Lib.hid hw
    have y0 := cell_of b3 0
    have y1 := cell_of b3 1
    have y2 := cell_of b3 2
    simp only [List.getElem?_toArray, List.getElem?_cons_succ, List.getElem?_cons_zero] at y0 y1 y2
    replace C := Lib.hid (C.out.trans hc)
    clear hg HV hw hc b3
    go_upto_region 5 with fail
    rw [← W3.out]
    generalize w2.heap.size = g0 at *
    clear W3
    by_cases hk : e.k = 2
    · have h1 : ((e.k == 2) : Bool) = true := by simpa using hk
      have h2 : ((e.k != 2) : Bool) = false := by unfold bne; rw [h1]; rfl
      obtain rfl : v = 0 := by rw [VE.out, if_pos hk]
      clear hk VE
      go_wp2
      go_ret
      exact ⟨rfl, C.out⟩
    · have h1 : ((e.k == 2) : Bool) = false := by simpa using hk
      have h2 : ((e.k != 2) : Bool) = true := by unfold bne; rw [h1]; rfl
      obtain rfl : v = 12 := by rw [VE.out, if_neg hk]
      clear hk VE
      go_wp2
      go_ret
      exact ⟨rfl, C.out⟩
end
section
open Go.RowKit Go.Lib
set_option linter.unusedSimpArgs false
set_option linter.unusedVariables false

/-- The first k entries are as those of a tree. -/
def PreT (t : List EnP) (k : Nat) : Prop := (∀ e ∈ t.take k, Stands e) ∧ (t.take k).Pairwise ltT ∧ ∀ e ∈ t.take k, parT t e.p = 0
theorem PreT.zero (t : List EnP) : PreT t 0 := ⟨by simp, by simp, by simp⟩
theorem PreT.next {t : List EnP} {k : Nat} {e : EnP} (h : PreT t k) (he : t[k]? = some e) (hs : Stands e) (hl : ∀ f, 0 < k → t[k - 1]? = some f → ltT f e) (hp : parT t e.p = 0) : PreT t (k + 1) := by
  have ht : t.take (k + 1) = t.take k ++ [e] := by rw [List.take_add_one, he]; rfl
  unfold PreT
  rw [ht]
  refine ⟨fun y hy => ?_, ?_, fun y hy => ?_⟩
  · rcases List.mem_append.1 hy with q | q
    · exact h.1 y q
    · simp at q; rw [q]; exact hs
  · rw [List.pairwise_append]
    refine ⟨h.2.1, List.pairwise_singleton _ _, fun y hy z hz => ?_⟩
    simp at hz
    subst hz
    obtain ⟨i, hi, rfl⟩ := List.getElem_of_mem hy
    have hk : 0 < k := by rw [List.length_take] at hi; omega
    have kl := (List.getElem?_eq_some_iff.1 he).1
    have hkl : k - 1 < (t.take k).length := by rw [List.length_take]; omega
    have hlast : ltT ((t.take k)[k - 1]) z := by
      have e1 : (t.take k)[k - 1] = t[k - 1] := by rw [List.getElem_take]
      rw [e1]
      exact hl _ hk (List.getElem?_eq_getElem (by omega))
    by_cases q : i = k - 1
    · subst q; exact hlast
    · exact ltT_tr _ _ _ (List.pairwise_iff_getElem.1 h.2.1 i (k - 1) hi hkl (by rw [List.length_take] at hi; omega)) hlast
  · rcases List.mem_append.1 hy with q | q
    · exact h.2.2 y q
    · simp at q; rw [q]; exact hp
theorem PreT.all {t : List EnP} (h : PreT t t.length) : TabOk t := by
  unfold PreT at h
  rw [List.take_length] at h
  exact ⟨h.1, h.2.1, fun e he hp => parT_zero (h.2.2 e he) hp⟩
theorem tab_at {t : List EnP} (h : TabOk t) {k : Nat} {e : EnP} (he : t[k]? = some e) : Stands e ∧ (∀ f, 0 < k → t[k - 1]? = some f → ltT f e) ∧ parT t e.p = 0 := by
  have m := List.mem_of_getElem? he
  refine ⟨h.1 e m, fun f hk hf => ?_, parT_of h.2.1 (h.2.2 e m)⟩
  obtain ⟨l1, e1⟩ := List.getElem?_eq_some_iff.1 hf
  obtain ⟨l2, e2⟩ := List.getElem?_eq_some_iff.1 he
  have := List.pairwise_iff_getElem.1 h.2.1 (k - 1) k l1 l2 (by omega)
  rwa [e1, e2] at this
end
section
open Go.RowKit
set_option linter.unusedSimpArgs false
set_option linter.unusedVariables false
set_option maxRecDepth 100000 in
set_option maxHeartbeats 4000000 in
theorem qhless_any (w : World) (a b : List UInt8) (ha : a.length ≤ 10000000) (hb : b.length ≤ 10000000) :
    Calls Tryz.prog 46 #[.string (strOf a), .string (strOf b)] w fun e w' => e = .returned (.bool (lessL a b)) ∧ Chg [] w w' := by
  have S1 := Lib.hid (fun w => qcut_any w a ha)
  have S2 := Lib.hid (fun w => qcut_any w b hb)
  have L1 := Lib.hid (show (cutL a).length ≤ 100000000 by have := cutA_len a []; show (cutA [] a).length ≤ _; omega)
  have L2 := Lib.hid (show (cutL b).length ≤ 100000000 by have := cutA_len b []; show (cutA [] b).length ≤ _; omega)
  unfold lessL
  generalize cutL a = xs at *
  generalize cutL b = ys at *
  obtain ⟨R, hR⟩ : ∃ R, cmpT xs ys = R := ⟨_, rfl⟩
  rw [hR]
  have HR := Lib.hid hR
  clear hR
  go_enter Tryz.func46, Tryz.ntmps46
  go_wp2_with fail
  refine (S1.out _).mono ?_
  rintro e w1 ⟨A, c, rfl, o1, _, hc1⟩
  have O1 := Lib.hid o1
  have C1 := Lib.hid hc1
  clear o1 hc1
  go_wp2_with fail
  refine (S2.out _).mono ?_
  rintro e w2 ⟨B, d, rfl, o2, _, hc2⟩
  have HA := Lib.hid (O1.out.chg hc2 (by simp)).reads
  have HB := Lib.hid o2.reads
  have C2 := Lib.hid (C1.out.trans hc2)
  clear o2 hc2
  have hx := L1.out
  have hy := L2.out
  go_wp2
  go_loopw [7] (fun v7 wr => ∃ k : Nat, k ≤ xs.length ∧ k ≤ ys.length ∧ v7 = .int .i64 (k : Int) ∧ Hid (cmpT (xs.drop k) (ys.drop k) = R) ∧ Hid (Chg [] w2 wr)) (fun v7 _ => xs.length - (RowKit.intOf v7).toNat)
  case atStart => exact ⟨0, Nat.zero_le _, Nat.zero_le _, rfl, HR, Chg.refl _ _⟩
  case round =>
    obtain ⟨k, hk, hk2, rfl, HC, HI⟩ := hrel
    have k1 : IntKind.i64.wrap ((k : Int) + 1) = (k : Int) + 1 := IntWalk.i64_in _ (by omega)
    have i0 : (0 : Int) ≤ (k : Int) := by omega
    by_cases hlt : k < xs.length
    · have i1 : (k : Int) < (xs.length : Int) := by omega
      by_cases hlt2 : k < ys.length
      · have i2 : (k : Int) < (ys.length : Int) := by omega
        obtain ⟨g, o, eA, _⟩ := HA.out.line (by omega)
        subst eA
        obtain ⟨g2, o2, eB, _⟩ := HB.out.line (by omega)
        subst eB
        have ex := List.getElem?_eq_getElem hlt
        have z := textCells (HA.out.chg HI.out (by simp)) ex
        have ey := List.getElem?_eq_getElem hlt2
        have z2 := textCells (HB.out.chg HI.out (by simp)) ey
        have HT := Lib.hid (cmpT_at xs ys k hlt hlt2)
        generalize xs[k] = x at *
        generalize ys[k] = y at *
        clear ex ey
        by_cases hxy : x = y
        · subst hxy
          have HQ := Lib.hid (HC.out.symm.trans (HT.out.trans (if_pos (cb_self x))))
          have h1 : (x == x) = true := by simp
          go_wp2
          go_quiet (fail)
          go_wp2
          exact ⟨⟨k + 1, by omega, by omega, by simp, Lib.hid HQ.out.symm, Lib.hid (HI.out.drewN _)⟩, by simp [RowKit.intOf]; omega⟩
        · have hcb : ¬ Lib.compareBytes x y = 0 := fun e => hxy (cb_zero x y e)
          have HQ := Lib.hid (HC.out.symm.trans (HT.out.trans (if_neg hcb)))
          have h1 : (x == y) = false := by simpa using hxy
          have h2 := str_ne hxy
          have HL := Lib.hid (cb_less x y)
          clear hcb
          go_wp2
          go_quiet (fail)
          go_wp2
          go_quiet (fail)
          go_wp2
          go_ret
          exact ⟨congrArg (fun v => Ending.returned (Value.bool v)) (by rw [HL.out, HQ.out]), ((C2.out.trans HI.out).drewN _).drewN _⟩
      · have i2 : ¬ ((k : Int) < (ys.length : Int)) := by omega
        have i4 : ¬ ((xs.length : Int) < (ys.length : Int)) := by omega
        have HQ := Lib.hid (HC.out.symm.trans (cmpT_end1 xs ys k hlt (by omega)))
        go_wp2
        go_ret
        exact ⟨by rw [HQ.out]; rfl, C2.out.trans HI.out⟩
    · have i1 : ¬ ((k : Int) < (xs.length : Int)) := by omega
      by_cases hl2 : xs.length < ys.length
      · have i4 : (xs.length : Int) < (ys.length : Int) := by omega
        have HQ := Lib.hid (HC.out.symm.trans (cmpT_endm xs ys k (by omega) (by omega)))
        go_wp2
        go_ret
        exact ⟨by rw [HQ.out]; rfl, C2.out.trans HI.out⟩
      · have i4 : ¬ ((xs.length : Int) < (ys.length : Int)) := by omega
        have HQ := Lib.hid (HC.out.symm.trans (cmpT_end0 xs ys k (by omega) (by omega)))
        go_wp2
        go_ret
        exact ⟨by rw [HQ.out]; rfl, C2.out.trans HI.out⟩
end
section
open Go.RowKit Go.Lib
set_option linter.unusedSimpArgs false
set_option linter.unusedVariables false

set_option maxHeartbeats 4000000 in
theorem fcheck_any (w : World) (k m : Int) (A : Option Addr) (n c : Nat) (hn : n ≤ 140737488351232) :
    Calls Tryz.prog 45 #[.agg #[.int .i64 k, .int .i64 m, .slice A n c]] w fun e w' => e = .returned (.int .i64 (chkE k m n)) ∧ Chg [] w w' := by
  have go : ∀ v, chkE k m n = v → Calls Tryz.prog 45 #[.agg #[.int .i64 k, .int .i64 m, .slice A n c]] w (fun e w' => e = .returned (.int .i64 v) ∧ Chg [] w w') → Calls Tryz.prog 45 #[.agg #[.int .i64 k, .int .i64 m, .slice A n c]] w fun e w' => e = .returned (.int .i64 (chkE k m n)) ∧ Chg [] w w' := fun v hv h => hv ▸ h
  by_cases h1 : k = 1
  · subst h1
    by_cases m0 : m < 0
    · refine go 2 (chkE_odd (by unfold Fine; omega)) ?_
      have m0' : ¬ 0 ≤ m := by omega
      clear go
      go_enter Tryz.func45, Tryz.ntmps45
      go_wp2
      go_ret
      exact ⟨rfl, (Chg.refl _ _).alloc _⟩
    have m0' : 0 ≤ m := by omega
    by_cases m1 : 511 < m
    · refine go 2 (chkE_odd (by unfold Fine; omega)) ?_
      have m1' : ¬ m ≤ 511 := by omega
      clear go
      go_enter Tryz.func45, Tryz.ntmps45
      go_wp2
      go_ret
      exact ⟨rfl, (Chg.refl _ _).alloc _⟩
    have m1' : m ≤ 511 := by omega
    by_cases n1 : 1000 < n
    · refine go 2 (chkE_odd (by unfold Fine; omega)) ?_
      have n1' : decide ((n : Int) ≤ 1000) = false := by simp; omega
      clear go
      go_enter Tryz.func45, Tryz.ntmps45
      go_wp2
      go_ret
      exact ⟨rfl, (Chg.refl _ _).alloc _⟩
    · refine go 0 (chkE_fine (by unfold Fine; omega)) ?_
      have n1' : decide ((n : Int) ≤ 1000) = true := by simp; omega
      clear go
      go_enter Tryz.func45, Tryz.ntmps45
      go_wp2
      go_ret
      exact ⟨rfl, (Chg.refl _ _).alloc _⟩
  have h1' : (k == 1) = false := by simpa using h1
  by_cases h2 : k = 2
  · subst h2
    by_cases m0 : m < 0
    · refine go 2 (chkE_odd (by unfold Fine; omega)) ?_
      have m0' : ¬ 0 ≤ m := by omega
      clear go
      go_enter Tryz.func45, Tryz.ntmps45
      go_wp2
      go_ret
      exact ⟨rfl, (Chg.refl _ _).alloc _⟩
    have m0' : 0 ≤ m := by omega
    by_cases m1 : 511 < m
    · refine go 2 (chkE_odd (by unfold Fine; omega)) ?_
      have m1' : ¬ m ≤ 511 := by omega
      clear go
      go_enter Tryz.func45, Tryz.ntmps45
      go_wp2
      go_ret
      exact ⟨rfl, (Chg.refl _ _).alloc _⟩
    have m1' : m ≤ 511 := by omega
    by_cases n1 : n = 0
    · subst n1
      refine go 0 (chkE_fine (by unfold Fine; omega)) ?_
      clear go
      go_enter Tryz.func45, Tryz.ntmps45
      go_wp2
      go_ret
      exact ⟨rfl, (Chg.refl _ _).alloc _⟩
    · refine go 2 (chkE_odd (by unfold Fine; omega)) ?_
      have n1' : ((n : Int) == 0) = false := by simp; omega
      clear go
      go_enter Tryz.func45, Tryz.ntmps45
      go_wp2
      go_ret
      exact ⟨rfl, (Chg.refl _ _).alloc _⟩
  have h2' : (k == 2) = false := by simpa using h2
  by_cases h3 : k = 3
  · subst h3
    by_cases m0 : m = 0
    · subst m0
      by_cases n1 : n = 0
      · subst n1
        refine go 0 (chkE_fine (by unfold Fine; omega)) ?_
        clear go
        go_enter Tryz.func45, Tryz.ntmps45
        go_wp2
        go_ret
        exact ⟨rfl, (Chg.refl _ _).alloc _⟩
      · refine go 2 (chkE_odd (by unfold Fine; omega)) ?_
        have n1' : ((n : Int) == 0) = false := by simp; omega
        clear go
        go_enter Tryz.func45, Tryz.ntmps45
        go_wp2
        go_ret
        exact ⟨rfl, (Chg.refl _ _).alloc _⟩
    · refine go 2 (chkE_odd (by unfold Fine; omega)) ?_
      have m0' : (m == 0) = false := by simpa using m0
      clear go
      go_enter Tryz.func45, Tryz.ntmps45
      go_wp2
      go_ret
      exact ⟨rfl, (Chg.refl _ _).alloc _⟩
  have h3' : (k == 3) = false := by simpa using h3
  refine go 2 (chkE_odd (by unfold Fine; omega)) ?_
  clear go
  go_enter Tryz.func45, Tryz.ntmps45
  go_wp2
  go_ret
  exact ⟨rfl, (Chg.refl _ _).alloc _⟩
end
section
open Go.RowKit Go.Lib
set_option linter.unusedSimpArgs false
set_option linter.unusedVariables false

set_option maxRecDepth 100000 in
set_option maxHeartbeats 8000000 in
theorem tdcheck_any (w : World) (A : Option Addr) (c : Nat) (xs : List EnT) (es : List EnP) (h : RdK enTy w A xs.length xs) (hx : EnsR w xs es) (hn : xs.length ≤ 200) (hs : ∀ e ∈ es, EnSm e ∧ e.p.length ≤ 900000) :
    Calls Tryz.prog 16 #[.slice A xs.length c] w fun r w' => r = .returned (.int .i64 (tabE es)) ∧ Chg [] w w' := by
  have HA := Lib.hid h
  have HX := Lib.hid hx
  have HN := Lib.hid hn
  have HS := Lib.hid hs
  have n200 : ¬ (200 : Int) < (xs.length : Int) := by omega
  generalize hv : tabE es = v
  have HV := Lib.hid hv
  have NO : Hid (¬ TabOk es → v = 2) := Lib.hid (fun q => by rw [← hv]; exact if_neg q)
  clear h hx hn hs hv
  go_enter Tryz.func16, Tryz.ntmps16
  go_wp2
  clear n200
  go_loopw [3] (fun v3 wr => ∃ k : Nat, k ≤ xs.length ∧ v3 = .int .i64 (k : Int) ∧ Hid (PreT es k) ∧ Hid (Chg [] w wr)) (fun v3 _ => xs.length - (RowKit.intOf v3).toNat)
  case atStart => exact ⟨0, Nat.zero_le _, rfl, Lib.hid (PreT.zero es), Chg.refl _ _⟩
  case round =>
    obtain ⟨k, hk, rfl, PT, RC⟩ := hrel
    have i0 : (0 : Int) ≤ (k : Int) := by omega
    by_cases hlt : k < xs.length
    · have i1 : (k : Int) < (xs.length : Int) := by omega
      have i3 : IntKind.i64.wrap ((k : Int) + 1) = (k : Int) + 1 := IntWalk.i64_in _ (by have := HN.out; omega)
      obtain ⟨x, e, ex, ee, rx⟩ := HX.out.at_ hlt
      obtain ⟨g, o, eA, _⟩ := HA.out.line (by omega)
      subst eA
      obtain ⟨t0, t1, t2, t3⟩ := enCells (HA.out.chg RC.out (by simp)) ex
      have EE := Lib.hid ee
      have RX := Lib.hid rx
      have SM := Lib.hid (HS.out e (List.mem_of_getElem? ee))
      have KL := Lib.hid hlt
      rw [RX.out.p] at t0
      clear ex ee rx
      go_upto_region 7 with fail
      clear t0 t1 t2 t3
      obtain ⟨w1, hw, hc, b4⟩ := news1 wr (.cells #[.string (strOf e.p), .int .i64 x.k, .int .i64 x.m, .slice x.A x.l x.c] 55)
      rw [← hw]
      generalize wr.heap.size = g4 at *
      have B4 := Lib.hid b4
      replace RC := Lib.hid (RC.out.trans hc)
      clear hw hc b4
      have QC := Lib.hid (qcheck_any w1 e.p SM.out.1.1)
      have FC : Hid (∀ w', Calls Tryz.prog 45 #[.agg #[.int .i64 x.k, .int .i64 x.m, .slice x.A x.l x.c]] w' fun r w2 => r = .returned (.int .i64 (chkE e.k e.m e.b.length)) ∧ Chg [] w' w2) := Lib.hid (fun w' => by
        have q := fcheck_any w' x.k x.m x.A x.l x.c (by rw [RX.out.l]; exact SM.out.1.2)
        rw [RX.out.k, RX.out.m, RX.out.l] at q
        rw [RX.out.k, RX.out.m, RX.out.l]
        exact q)
      have z0 := cell_of B4.out 0
      have z1 := cell_of B4.out 1
      have z2 := cell_of B4.out 2
      have z3 := cell_of B4.out 3
      simp only [List.getElem?_toArray, List.getElem?_cons_succ, List.getElem?_cons_zero] at z0 z1 z2 z3

      go_wp2_with fail
      clear z0 z1 z2 z3
      refine QC.out.mono ?_
      rintro r w2 ⟨rfl, hc⟩
      replace B4 := Lib.hid (hc.at_ B4.out (by simp))
      replace RC := Lib.hid (RC.out.trans hc)
      clear hc QC
      by_cases hp : checkL 6 12 e.p = true
      rotate_left
      · skip
        obtain rfl : v = 2 := NO.out (fun q => hp (tab_at q EE.out).1.1)
        rw [if_neg hp]
        clear hp HV NO
        go_wp2
        go_ret
        exact ⟨rfl, RC.out⟩
      rw [if_pos hp]
      have OKP : Hid (okP e.p = true) := Lib.hid hp
      clear hp
      have z0 := cell_of B4.out 0
      have z1 := cell_of B4.out 1
      have z2 := cell_of B4.out 2
      have z3 := cell_of B4.out 3
      simp only [List.getElem?_toArray, List.getElem?_cons_succ, List.getElem?_cons_zero] at z0 z1 z2 z3

      go_wp2_with fail
      clear z0 z1 z2 z3
      refine (FC.out w2).mono ?_
      rintro r w3 ⟨rfl, hc⟩
      replace B4 := Lib.hid (hc.at_ B4.out (by simp))
      replace RC := Lib.hid (RC.out.trans hc)
      clear hc FC
      by_cases he : chkE e.k e.m e.b.length = 0
      rotate_left
      · skip
        obtain rfl : v = 2 := NO.out (fun q => he (tab_at q EE.out).1.2.1)
        have h1 : ((chkE e.k e.m e.b.length == 0) : Bool) = false := by simpa using he
        have h2 : ((chkE e.k e.m e.b.length != 0) : Bool) = true := by unfold bne; rw [h1]; rfl
        clear HV NO
        go_wp2
        go_ret
        exact ⟨rfl, RC.out⟩
      rw [he]
      have HE := Lib.hid he
      clear he
      have z0 := cell_of B4.out 0
      have z1 := cell_of B4.out 1
      have z2 := cell_of B4.out 2
      have z3 := cell_of B4.out 3
      simp only [List.getElem?_toArray, List.getElem?_cons_succ, List.getElem?_cons_zero] at z0 z1 z2 z3

      by_cases hk3 : x.k = 3
      · skip
        obtain rfl : v = 2 := NO.out (fun q => (tab_at q EE.out).1.2.2 (by rw [← RX.out.k]; exact hk3))
        have h1 : ((x.k == 3) : Bool) = true := by simpa using hk3
        clear hk3 HV NO
        go_wp2
        go_ret
        exact ⟨rfl, RC.out⟩
      have h1 : ((x.k == 3) : Bool) = false := by simpa using hk3
      have ST : Hid (Stands e) := Lib.hid ⟨OKP.out, HE.out, fun q => hk3 (by rw [RX.out.k]; exact q)⟩
      clear hk3
      by_cases hk0 : k = 0
      · skip
        have d1 : ¬ (0 : Int) < (k : Int) := by omega
        have d2 : decide ((0 : Int) < (k : Int)) = false := decide_eq_false d1
        have d7 : decide (0 < k) = false := decide_eq_false (by omega)
        have DX : Hid (∀ w', Chg [] w3 w' → (fun w' => w'.cell? ⟨g4, 0, none⟩ = some (.string (strOf e.p)) ∧ w'.cell? ⟨g4, 1, none⟩ = some (.int .i64 x.k) ∧ w'.cell? ⟨g4, 2, none⟩ = some (.int .i64 x.m) ∧ w'.cell? ⟨g4, 3, none⟩ = some (.slice x.A x.l x.c)) w') := Lib.hid (fun w' hc => by
          have b4 := hc.at_ B4.out (by simp)
          exact ⟨cell_of b4 0, cell_of b4 1, cell_of b4 2, cell_of b4 3⟩)
        go_upto_region 9 with fail
        clear z0 z1 z2 z3 h1
        refine wp_region_held_drew (S := fun w' => w'.cell? ⟨g4, 0, none⟩ = some (.string (strOf e.p)) ∧ w'.cell? ⟨g4, 1, none⟩ = some (.int .i64 x.k) ∧ w'.cell? ⟨g4, 2, none⟩ = some (.int .i64 x.m) ∧ w'.cell? ⟨g4, 3, none⟩ = some (.slice x.A x.l x.c)) (by kernel_rfl) (DX.out _ (Chg.refl [] w3).drew) (fun hHeld => ?_)
        have CC : Hid (Chg [] w3 w3.drew) := Lib.hid (Chg.refl [] w3).drew
        clear hHeld
        obtain ⟨wc, hwc⟩ : ∃ wc, w3.drew = wc := ⟨_, rfl⟩
        rw [hwc] at CC ⊢
        clear hwc
        refine sy 0 34 rfl rfl ?_ (hS := (DX.out _ CC.out))
        try simp only [Act.put, sA, s0, s1]
        refine sy 1 35 rfl rfl ?_ (hS := (DX.out _ CC.out))
        try simp only [Act.put, sA, s0, s1]
        refine sy 2 36 rfl rfl ?_ (hS := (DX.out _ CC.out))
        try simp only [Act.put, sA, s0, s1]
        refine sn 3 37 rfl rfl ?_ (hS := (DX.out _ CC.out))
        try simp only [Act.put, sA, s0, s1]
        refine sn 4 38 rfl rfl ?_ (hS := (DX.out _ CC.out))
        try simp only [Act.put, sA, s0, s1]
        refine sn 5 39 rfl rfl ?_ (hS := (DX.out _ CC.out))
        try simp only [Act.put, sA, s0, s1]
        refine sn 6 40 rfl rfl ?_ (hS := (DX.out _ CC.out))
        try simp only [Act.put, sA, s0, s1]
        refine sn 7 41 rfl rfl ?_ (hS := (DX.out _ CC.out))
        try simp only [Act.put, sA, s0, s1]
        refine sn 8 42 rfl rfl ?_ (hS := (DX.out _ CC.out))
        try simp only [Act.put, sA, s0, s1]
        refine sn 9 43 rfl rfl ?_ (hS := (DX.out _ CC.out))
        try simp only [Act.put, sA, s0, s1]
        refine sn 10 44 rfl rfl ?_ (hS := (DX.out _ CC.out))
        try simp only [Act.put, sA, s0, s1]
        refine sn 11 45 rfl rfl ?_ (hS := (DX.out _ CC.out))
        try simp only [Act.put, sA, s0, s1]
        refine sn 12 46 rfl rfl ?_ (hS := (DX.out _ CC.out))
        try simp only [Act.put, sA, s0, s1]
        refine sy 13 47 rfl rfl ?_ (hS := (DX.out _ CC.out))
        try simp only [Act.put, sA, s0, s1]
        refine sy 14 48 rfl rfl ?_ (hS := (DX.out _ CC.out))
        try simp only [Act.put, sA, s0, s1]
        refine sy 15 49 rfl rfl ?_ (hS := (DX.out _ CC.out))
        try simp only [Act.put, sA, s0, s1]
        refine sy 16 50 rfl rfl ?_ (hS := (DX.out _ CC.out))
        try simp only [Act.put, sA, s0, s1]
        refine sy 17 51 rfl rfl ?_ (hS := (DX.out _ CC.out)) (hy := by (intro w hSw; (try dsimp only at hSw); obtain ⟨q0, q1, q2, q3⟩ := hSw; go_simp; try with_reducible rfl))
        try simp only [Act.put, sA, s0, s1]
        refine wpAnyH_ready (rs := [18]) (by kernel_rfl) (by simp) ?_
        refine AllReadyH.cons rfl (fun K hK => ?_) AllReadyH.nil
        replace hK := Lib.hid hK
        go_simp
        refine (tdparent_any wc (some ⟨g, o, none⟩) c xs es e.p SM.out.2 (HA.out.chg (RC.out.trans CC.out) (by simp)) (HX.out.chg (RC.out.trans CC.out)) (by have := HN.out; omega)).mono ?_
        rintro r wn ⟨rfl, hc⟩
        replace CC := Lib.hid (CC.out.trans hc)
        clear hc
        generalize hpp : parT es e.p = pv
        generalize wn = wc at *
        refine hK.out _ _ (DX.out _ CC.out) (fun hHeld => ?_)
        clear hK K
        try simp only [Act.put, sA, s0, s1]
        refine sy 19 53 rfl rfl ?_ (hS := (DX.out _ CC.out))
        try simp only [Act.put, sA, s0, s1]
        refine sy 20 54 rfl rfl ?_ (hS := (DX.out _ CC.out))
        try simp only [Act.put, sA, s0, s1]
        refine wpAnyH_done (by kernel_rfl) ?_ _
        clear hHeld
        by_cases h0 : pv = 0
        · skip
          have PN : Hid (PreT es (k + 1)) := Lib.hid (PT.out.next EE.out ST.out (fun f2 h _ => absurd h (by omega)) (hpp.trans h0))
          subst h0
          clear hpp
          go_wp2
          go_round
          case rel => exact ⟨k + 1, by omega, by go_num, PN, RC.out.trans CC.out⟩
          case measure => simp [RowKit.intOf]; omega
        have h1 : ((pv == 0) : Bool) = false := by simpa using h0
        have h2 : ((pv != 0) : Bool) = true := by unfold bne; rw [h1]; rfl
        obtain rfl : v = 2 := NO.out (fun q => h0 (hpp.symm.trans (tab_at q EE.out).2.2))
        clear h0 hpp HV NO
        go_wp2
        go_ret
        exact ⟨rfl, RC.out.trans CC.out⟩
      have d1 : (0 : Int) < (k : Int) := by omega
      have d2 : decide ((0 : Int) < (k : Int)) = true := decide_eq_true d1
      have d6 : 0 < k := by omega
      have d7 : decide (0 < k) = true := decide_eq_true d6
      have d3 : IntKind.i64.wrap ((k : Int) - 1) = ((k - 1 : Nat) : Int) := by rw [IntWalk.i64_in _ (by have := HN.out; omega)]; omega
      have d4 : (0 : Int) ≤ ((k - 1 : Nat) : Int) := by omega
      have d5 : ((k - 1 : Nat) : Int) < (xs.length : Int) := by omega
      obtain ⟨fx, f, ex, ef, rf⟩ := HX.out.at_ (show k - 1 < xs.length by omega)
      have FX := Lib.hid ex
      have FE := Lib.hid ef
      have FR := Lib.hid rf
      have FS := Lib.hid (HS.out f (List.mem_of_getElem? ef))
      clear ex ef rf
      rcases hl : lessL f.p e.p with _ | _
      · skip
        have LV := Lib.hid hl
        have ltNO : Hid (¬ ltT f e) := Lib.hid (by unfold ltT; rw [hl]; simp)
        clear hl
        have DX : Hid (∀ w', Chg [] w3 w' → (fun w' => w'.cell? ⟨g4, 0, none⟩ = some (.string (strOf e.p)) ∧ w'.cell? ⟨g4, 1, none⟩ = some (.int .i64 x.k) ∧ w'.cell? ⟨g4, 2, none⟩ = some (.int .i64 x.m) ∧ w'.cell? ⟨g4, 3, none⟩ = some (.slice x.A x.l x.c) ∧ w'.cell? ⟨g, o + (k - 1) * 4, none⟩ = some (.string (strOf f.p))) w') := Lib.hid (fun w' hc => by
          have b4 := hc.at_ B4.out (by simp)
          have q := (enCells (HA.out.chg (RC.out.trans hc) (by simp)) FX.out).1
          rw [FR.out.p] at q
          exact ⟨cell_of b4 0, cell_of b4 1, cell_of b4 2, cell_of b4 3, q⟩)
        go_upto_region 9 with fail
        clear z0 z1 z2 z3 h1
        refine wp_region_held_drew (S := fun w' => w'.cell? ⟨g4, 0, none⟩ = some (.string (strOf e.p)) ∧ w'.cell? ⟨g4, 1, none⟩ = some (.int .i64 x.k) ∧ w'.cell? ⟨g4, 2, none⟩ = some (.int .i64 x.m) ∧ w'.cell? ⟨g4, 3, none⟩ = some (.slice x.A x.l x.c) ∧ w'.cell? ⟨g, o + (k - 1) * 4, none⟩ = some (.string (strOf f.p))) (by kernel_rfl) (DX.out _ (Chg.refl [] w3).drew) (fun hHeld => ?_)
        have CC : Hid (Chg [] w3 w3.drew) := Lib.hid (Chg.refl [] w3).drew
        clear hHeld
        obtain ⟨wc, hwc⟩ : ∃ wc, w3.drew = wc := ⟨_, rfl⟩
        rw [hwc] at CC ⊢
        clear hwc
        refine sy 0 34 rfl rfl ?_ (hS := (DX.out _ CC.out))
        try simp only [Act.put, sA, s0, s1]
        refine sy 1 35 rfl rfl ?_ (hS := (DX.out _ CC.out))
        try simp only [Act.put, sA, s0, s1]
        refine sy 2 36 rfl rfl ?_ (hS := (DX.out _ CC.out))
        try simp only [Act.put, sA, s0, s1]
        refine sy 3 37 rfl rfl ?_ (hS := (DX.out _ CC.out))
        try simp only [Act.put, sA, s0, s1]
        refine sy 4 38 rfl rfl ?_ (hS := (DX.out _ CC.out))
        try simp only [Act.put, sA, s0, s1]
        refine sy 5 39 rfl rfl ?_ (hS := (DX.out _ CC.out))
        try simp only [Act.put, sA, s0, s1]
        refine sy 6 40 rfl rfl ?_ (hS := (DX.out _ CC.out))
        try simp only [Act.put, sA, s0, s1]
        refine sy 7 41 rfl rfl ?_ (hS := (DX.out _ CC.out))
        try simp only [Act.put, sA, s0, s1]
        refine sy 8 42 rfl rfl ?_ (hS := (DX.out _ CC.out)) (hy := by (intro w hSw; (try dsimp only at hSw); obtain ⟨q0, q1, q2, q3, q4⟩ := hSw; go_simp; try with_reducible rfl))
        try simp only [Act.put, sA, s0, s1]
        refine sy 9 43 rfl rfl ?_ (hS := (DX.out _ CC.out))
        try simp only [Act.put, sA, s0, s1]
        refine sy 10 44 rfl rfl ?_ (hS := (DX.out _ CC.out)) (hy := by (intro w hSw; (try dsimp only at hSw); obtain ⟨q0, q1, q2, q3, q4⟩ := hSw; go_simp; try with_reducible rfl))
        try simp only [Act.put, sA, s0, s1]
        refine wpAnyH_ready (rs := [11]) (by kernel_rfl) (by simp) ?_
        refine AllReadyH.cons rfl (fun K hK => ?_) AllReadyH.nil
        replace hK := Lib.hid hK
        go_simp
        refine (qhless_any wc f.p e.p (by have := FS.out.1.1; omega) (by have := SM.out.1.1; omega)).mono ?_
        rintro r wn ⟨rfl, hc⟩
        rw [LV.out]
        replace CC := Lib.hid (CC.out.trans hc)
        clear hc
        generalize wn = wc at *
        refine hK.out _ _ (DX.out _ CC.out) (fun hHeld => ?_)
        clear hK K
        try simp only [Act.put, sA, s0, s1]
        refine sy 12 46 rfl rfl ?_ (hS := (DX.out _ CC.out))
        try simp only [Act.put, sA, s0, s1]
        refine sy 13 47 rfl rfl ?_ (hS := (DX.out _ CC.out))
        try simp only [Act.put, sA, s0, s1]
        refine sy 14 48 rfl rfl ?_ (hS := (DX.out _ CC.out))
        try simp only [Act.put, sA, s0, s1]
        refine sn 15 49 rfl rfl ?_ (hS := (DX.out _ CC.out))
        try simp only [Act.put, sA, s0, s1]
        refine sn 16 50 rfl rfl ?_ (hS := (DX.out _ CC.out))
        try simp only [Act.put, sA, s0, s1]
        refine sn 17 51 rfl rfl ?_ (hS := (DX.out _ CC.out))
        try simp only [Act.put, sA, s0, s1]
        refine sn 18 52 rfl rfl ?_ (hS := (DX.out _ CC.out))
        try simp only [Act.put, sA, s0, s1]
        refine sn 19 53 rfl rfl ?_ (hS := (DX.out _ CC.out))
        try simp only [Act.put, sA, s0, s1]
        refine sy 20 54 rfl rfl ?_ (hS := (DX.out _ CC.out))
        try simp only [Act.put, sA, s0, s1]
        refine wpAnyH_done (by kernel_rfl) ?_ _
        clear hHeld
        obtain rfl : v = 2 := NO.out (fun q => ltNO.out ((tab_at q EE.out).2.1 f (by omega) FE.out))
        clear HV NO
        go_wp2
        go_ret
        exact ⟨rfl, RC.out.trans CC.out⟩
      · skip
        have LV := Lib.hid hl
        have ltYES : Hid (ltT f e) := Lib.hid hl
        clear hl
        have DX : Hid (∀ w', Chg [] w3 w' → (fun w' => w'.cell? ⟨g4, 0, none⟩ = some (.string (strOf e.p)) ∧ w'.cell? ⟨g4, 1, none⟩ = some (.int .i64 x.k) ∧ w'.cell? ⟨g4, 2, none⟩ = some (.int .i64 x.m) ∧ w'.cell? ⟨g4, 3, none⟩ = some (.slice x.A x.l x.c) ∧ w'.cell? ⟨g, o + (k - 1) * 4, none⟩ = some (.string (strOf f.p))) w') := Lib.hid (fun w' hc => by
          have b4 := hc.at_ B4.out (by simp)
          have q := (enCells (HA.out.chg (RC.out.trans hc) (by simp)) FX.out).1
          rw [FR.out.p] at q
          exact ⟨cell_of b4 0, cell_of b4 1, cell_of b4 2, cell_of b4 3, q⟩)
        go_upto_region 9 with fail
        clear z0 z1 z2 z3 h1
        refine wp_region_held_drew (S := fun w' => w'.cell? ⟨g4, 0, none⟩ = some (.string (strOf e.p)) ∧ w'.cell? ⟨g4, 1, none⟩ = some (.int .i64 x.k) ∧ w'.cell? ⟨g4, 2, none⟩ = some (.int .i64 x.m) ∧ w'.cell? ⟨g4, 3, none⟩ = some (.slice x.A x.l x.c) ∧ w'.cell? ⟨g, o + (k - 1) * 4, none⟩ = some (.string (strOf f.p))) (by kernel_rfl) (DX.out _ (Chg.refl [] w3).drew) (fun hHeld => ?_)
        have CC : Hid (Chg [] w3 w3.drew) := Lib.hid (Chg.refl [] w3).drew
        clear hHeld
        obtain ⟨wc, hwc⟩ : ∃ wc, w3.drew = wc := ⟨_, rfl⟩
        rw [hwc] at CC ⊢
        clear hwc
        refine sy 0 34 rfl rfl ?_ (hS := (DX.out _ CC.out))
        try simp only [Act.put, sA, s0, s1]
        refine sy 1 35 rfl rfl ?_ (hS := (DX.out _ CC.out))
        try simp only [Act.put, sA, s0, s1]
        refine sy 2 36 rfl rfl ?_ (hS := (DX.out _ CC.out))
        try simp only [Act.put, sA, s0, s1]
        refine sy 3 37 rfl rfl ?_ (hS := (DX.out _ CC.out))
        try simp only [Act.put, sA, s0, s1]
        refine sy 4 38 rfl rfl ?_ (hS := (DX.out _ CC.out))
        try simp only [Act.put, sA, s0, s1]
        refine sy 5 39 rfl rfl ?_ (hS := (DX.out _ CC.out))
        try simp only [Act.put, sA, s0, s1]
        refine sy 6 40 rfl rfl ?_ (hS := (DX.out _ CC.out))
        try simp only [Act.put, sA, s0, s1]
        refine sy 7 41 rfl rfl ?_ (hS := (DX.out _ CC.out))
        try simp only [Act.put, sA, s0, s1]
        refine sy 8 42 rfl rfl ?_ (hS := (DX.out _ CC.out)) (hy := by (intro w hSw; (try dsimp only at hSw); obtain ⟨q0, q1, q2, q3, q4⟩ := hSw; go_simp; try with_reducible rfl))
        try simp only [Act.put, sA, s0, s1]
        refine sy 9 43 rfl rfl ?_ (hS := (DX.out _ CC.out))
        try simp only [Act.put, sA, s0, s1]
        refine sy 10 44 rfl rfl ?_ (hS := (DX.out _ CC.out)) (hy := by (intro w hSw; (try dsimp only at hSw); obtain ⟨q0, q1, q2, q3, q4⟩ := hSw; go_simp; try with_reducible rfl))
        try simp only [Act.put, sA, s0, s1]
        refine wpAnyH_ready (rs := [11]) (by kernel_rfl) (by simp) ?_
        refine AllReadyH.cons rfl (fun K hK => ?_) AllReadyH.nil
        replace hK := Lib.hid hK
        go_simp
        refine (qhless_any wc f.p e.p (by have := FS.out.1.1; omega) (by have := SM.out.1.1; omega)).mono ?_
        rintro r wn ⟨rfl, hc⟩
        rw [LV.out]
        replace CC := Lib.hid (CC.out.trans hc)
        clear hc
        generalize wn = wc at *
        refine hK.out _ _ (DX.out _ CC.out) (fun hHeld => ?_)
        clear hK K
        try simp only [Act.put, sA, s0, s1]
        refine sy 12 46 rfl rfl ?_ (hS := (DX.out _ CC.out))
        try simp only [Act.put, sA, s0, s1]
        refine sy 13 47 rfl rfl ?_ (hS := (DX.out _ CC.out))
        try simp only [Act.put, sA, s0, s1]
        refine sy 14 48 rfl rfl ?_ (hS := (DX.out _ CC.out))
        try simp only [Act.put, sA, s0, s1]
        refine sy 15 49 rfl rfl ?_ (hS := (DX.out _ CC.out))
        try simp only [Act.put, sA, s0, s1]
        refine sy 16 50 rfl rfl ?_ (hS := (DX.out _ CC.out))
        try simp only [Act.put, sA, s0, s1]
        refine sy 17 51 rfl rfl ?_ (hS := (DX.out _ CC.out)) (hy := by (intro w hSw; (try dsimp only at hSw); obtain ⟨q0, q1, q2, q3, q4⟩ := hSw; go_simp; try with_reducible rfl))
        try simp only [Act.put, sA, s0, s1]
        refine wpAnyH_ready (rs := [18]) (by kernel_rfl) (by simp) ?_
        refine AllReadyH.cons rfl (fun K hK => ?_) AllReadyH.nil
        replace hK := Lib.hid hK
        go_simp
        refine (tdparent_any wc (some ⟨g, o, none⟩) c xs es e.p SM.out.2 (HA.out.chg (RC.out.trans CC.out) (by simp)) (HX.out.chg (RC.out.trans CC.out)) (by have := HN.out; omega)).mono ?_
        rintro r wn ⟨rfl, hc⟩
        replace CC := Lib.hid (CC.out.trans hc)
        clear hc
        generalize hpp : parT es e.p = pv
        generalize wn = wc at *
        refine hK.out _ _ (DX.out _ CC.out) (fun hHeld => ?_)
        clear hK K
        try simp only [Act.put, sA, s0, s1]
        refine sy 19 53 rfl rfl ?_ (hS := (DX.out _ CC.out))
        try simp only [Act.put, sA, s0, s1]
        refine sy 20 54 rfl rfl ?_ (hS := (DX.out _ CC.out))
        try simp only [Act.put, sA, s0, s1]
        refine wpAnyH_done (by kernel_rfl) ?_ _
        clear hHeld
        by_cases h0 : pv = 0
        · skip
          have PN : Hid (PreT es (k + 1)) := Lib.hid (PT.out.next EE.out ST.out (fun f2 _ hf2 => by have q := FE.out; rw [hf2] at q; cases q; exact ltYES.out) (hpp.trans h0))
          subst h0
          clear hpp
          go_wp2
          go_round
          case rel => exact ⟨k + 1, by omega, by go_num, PN, RC.out.trans CC.out⟩
          case measure => simp [RowKit.intOf]; omega
        have h1 : ((pv == 0) : Bool) = false := by simpa using h0
        have h2 : ((pv != 0) : Bool) = true := by unfold bne; rw [h1]; rfl
        obtain rfl : v = 2 := NO.out (fun q => h0 (hpp.symm.trans (tab_at q EE.out).2.2))
        clear h0 hpp HV NO
        go_wp2
        go_ret
        exact ⟨rfl, RC.out.trans CC.out⟩
    · obtain rfl : k = xs.length := by omega
      have i1 : ¬ (xs.length : Int) < (xs.length : Int) := by omega
      obtain rfl : v = 0 := by rw [← HV.out]; exact if_pos (by have q := PT.out; rw [HX.out.1] at q; exact q.all)
      clear HV NO
      go_wp2
      go_ret
      exact ⟨rfl, RC.out⟩
end
section
open Go.RowKit Go.Lib
set_option linter.unusedSimpArgs false
set_option linter.unusedVariables false

/-- The rows of a copy lie apart from the list's own block, and are there. -/
def ApartN (w : World) (A : Option Addr) (xs : List EnT) : Prop := ∀ x ∈ xs, ∀ a, x.A = some a → a.block < w.heap.size ∧ ∀ b, A = some b → a.block ≠ b.block
theorem fresh_appN {w2 w w' : World} {A A' : Option Addr} (hA : ∀ a, A = some a → w2.heap.size ≤ a.block) (hC : Chg [] w2 w) (g : w.grownBy w' (A.map (·.block))) (e : A' = A ∨ A' = some ⟨w.heap.size, 0, none⟩) :
    (∀ a, A' = some a → w2.heap.size ≤ a.block) ∧ Chg [] w2 w' := by
  refine ⟨?_, hC.grown g ?_⟩
  · rintro a ha
    rcases e with rfl | rfl
    · exact hA a ha
    · cases ha; exact hC.size
  · rintro i hi
    cases A with
    | none => simp at hi
    | some a => simp at hi; subst hi; exact .inr (hA a rfl)
set_option maxRecDepth 100000 in
set_option maxHeartbeats 8000000 in
theorem copyens_any (w : World) (A : Option Addr) (c : Nat) (xs : List EnT) (es : List EnP) (h : RdK enTy w A xs.length xs) (hx : EnsR w xs es) (hn : xs.length ≤ 100000) (hq : ∀ e ∈ es, e.b.length ≤ 140737488351232) :
    Calls Tryz.prog 11 #[.slice A xs.length c] w fun r w' => ∃ (A' : Option Addr) (c' : Nat) (ys : List EnT), r = .returned (.slice A' ys.length c') ∧ ys.length = xs.length ∧ OwnK enTy w' A' c' ys ∧ EnsR w' ys es ∧ ApartN w' A' ys ∧ (∀ a, A' = some a → w.heap.size ≤ a.block) ∧ Chg [] w w' := by
  have HA := Lib.hid h
  have HX := Lib.hid hx
  have HN := Lib.hid hn
  have HQ := Lib.hid hq
  clear h hx hn hq
  go_enter Tryz.func11, Tryz.ntmps11
  go_wp2
  go_loopw [3, 4] (fun o i wr => ∃ (k : Nat) (A1 : Option Addr) (d1 : Nat) (ys : List EnT), k ≤ xs.length ∧ ys.length = k ∧ i = .int .i64 k ∧ o = .slice A1 ys.length d1 ∧ Hid (OwnK enTy wr A1 d1 ys) ∧ Hid (EnsR wr ys (es.take k)) ∧ Hid (ApartN wr A1 ys) ∧ Hid (∀ a, A1 = some a → w.heap.size ≤ a.block) ∧ Hid (Chg [] w wr)) (fun _ i _ => xs.length - (RowKit.intOf i).toNat)
  case atStart => exact ⟨0, none, 0, [], Nat.zero_le _, rfl, rfl, rfl, OwnK.none_ _, Lib.hid (by simpa using EnsR.nil _), Lib.hid (fun x hx => by simp at hx), Lib.hid (by simp), Chg.refl _ _⟩
  case round =>
    obtain ⟨k, A1, d1, ys, hk, hyl, rfl, rfl, RO, RE, RA, RN, RC⟩ := hrel
    have i0 : (0 : Int) ≤ (k : Int) := by omega
    by_cases hlt : k < xs.length
    · have i1 : (k : Int) < (xs.length : Int) := by omega
      have i3 : IntKind.i64.wrap ((k : Int) + 1) = (k : Int) + 1 := IntWalk.i64_in _ (by have := HN.out; omega)
      obtain ⟨g, o, eA, _⟩ := HA.out.line (by omega)
      subst eA
      obtain ⟨x, e, ex, ee, rx⟩ := HX.out.at_ hlt
      have DX : Hid (∀ w', Chg [] w w' → (fun w' => w'.cell? ⟨g, o + k * 4, none⟩ = some (.string x.p) ∧ w'.cell? ⟨g, o + k * 4 + 1, none⟩ = some (.int .i64 x.k) ∧ w'.cell? ⟨g, o + k * 4 + 2, none⟩ = some (.int .i64 x.m) ∧ w'.cell? ⟨g, o + k * 4 + 3, none⟩ = some (.slice x.A x.l x.c)) w') := Lib.hid (fun w' hc => enCells (HA.out.chg hc (by simp)) ex)
      have RX := Lib.hid rx
      have ET : Hid (es.take (k + 1) = es.take k ++ [e]) := Lib.hid (by rw [List.take_add_one, ee]; rfl)
      have EQ := Lib.hid (HQ.out e (List.mem_of_getElem? ee))
      have YL := Lib.hid hyl
      clear ex ee rx hyl
      obtain ⟨z0, z1, z2, z3⟩ := DX.out _ RC.out
      go_upto_region 5 with fail
      clear z0 z1 z2 z3
      refine wp_region_held_drew (S := fun w' => w'.cell? ⟨g, o + k * 4, none⟩ = some (.string x.p) ∧ w'.cell? ⟨g, o + k * 4 + 1, none⟩ = some (.int .i64 x.k) ∧ w'.cell? ⟨g, o + k * 4 + 2, none⟩ = some (.int .i64 x.m) ∧ w'.cell? ⟨g, o + k * 4 + 3, none⟩ = some (.slice x.A x.l x.c)) (by kernel_rfl) (DX.out _ (RC.out.trans (Chg.refl [] wr).drew)) (fun hHeld => ?_)
      have RD : Hid (Chg [] wr wr.drew) := Lib.hid (Chg.refl [] wr).drew
      clear hHeld
      replace RO := Lib.hid (RO.out.chg RD.out (by simp))
      replace RE := Lib.hid (RE.out.chg RD.out)
      replace RA : Hid (ApartN wr.drew A1 ys) := Lib.hid (fun y hy a ha => ⟨Nat.lt_of_lt_of_le (RA.out y hy a ha).1 RD.out.size, (RA.out y hy a ha).2⟩)
      replace RC := Lib.hid (RC.out.trans RD.out)
      clear RD
      generalize wr.drew = wc at *
      refine sy 0 11 rfl rfl ?_ (hS := (DX.out _ RC.out))
      try simp only [Act.put, sA, s0, s1]
      refine sy 1 12 rfl rfl ?_ (hS := (DX.out _ RC.out))
      try simp only [Act.put, sA, s0, s1]
      refine sy 2 13 rfl rfl ?_ (hS := (DX.out _ RC.out))
      try simp only [Act.put, sA, s0, s1]
      refine sy 3 14 rfl rfl ?_ (hS := (DX.out _ RC.out))
      try simp only [Act.put, sA, s0, s1]
      refine sy 4 15 rfl rfl ?_ (hS := (DX.out _ RC.out))
      try simp only [Act.put, sA, s0, s1]
      refine sy 5 16 rfl rfl ?_ (hS := (DX.out _ RC.out)) (hy := by (intro w hSw; (try dsimp only at hSw); obtain ⟨q0, q1, q2, q3⟩ := hSw; go_simp; try with_reducible rfl))
      try simp only [Act.put, sA, s0, s1]
      refine sy 6 17 rfl rfl ?_ (hS := (DX.out _ RC.out))
      try simp only [Act.put, sA, s0, s1]
      refine sy 7 18 rfl rfl ?_ (hS := (DX.out _ RC.out))
      try simp only [Act.put, sA, s0, s1]
      refine sy 8 19 rfl rfl ?_ (hS := (DX.out _ RC.out))
      try simp only [Act.put, sA, s0, s1]
      refine sy 9 20 rfl rfl ?_ (hS := (DX.out _ RC.out))
      try simp only [Act.put, sA, s0, s1]
      refine sy 10 21 rfl rfl ?_ (hS := (DX.out _ RC.out)) (hy := by (intro w hSw; (try dsimp only at hSw); obtain ⟨q0, q1, q2, q3⟩ := hSw; go_simp; try with_reducible rfl))
      try simp only [Act.put, sA, s0, s1]
      refine wpAnyH_ready (rs := [11]) (by kernel_rfl) (by simp) ?_
      refine AllReadyH.cons rfl (fun K hK => ?_) AllReadyH.nil
      replace hK := Lib.hid hK
      go_simp
      refine (copyeff_any wc x.k x.m x.A x.l x.c e.b (RX.out.A.chg RC.out (by simp)) (by rw [RX.out.l]; exact EQ.out)).mono ?_
      rintro r w2 ⟨A', c', rfl, hA, hnA, hc⟩
      obtain ⟨X, hX⟩ : ∃ X : EnT, X = ⟨x.p, x.k, x.m, A', x.l, c'⟩ := ⟨_, rfl⟩
      have e0 : X.p = x.p := by rw [hX]
      have e1 : X.k = x.k := by rw [hX]
      have e2 : X.m = x.m := by rw [hX]
      have e3 : X.A = A' := by rw [hX]
      have e4 : X.l = x.l := by rw [hX]
      have e5 : X.c = c' := by rw [hX]
      clear hX
      subst e3 e5
      rw [← e1, ← e2, ← e4]
      have XR : Hid (EnR w2 X e) := Lib.hid ⟨e0.trans RX.out.p, e1.trans RX.out.k, e2.trans RX.out.m, e4.trans RX.out.l, by have q := hA.reads; rw [show X.l = e.b.length from e4.trans RX.out.l]; exact q⟩
      have E0 := Lib.hid e0
      have KA : Hid (∀ a, X.A = some a → a.block < w2.heap.size ∧ wc.heap.size ≤ a.block) := Lib.hid (fun a ha => ⟨hA.lt a ha, hnA a ha⟩)
      have LA1 := Lib.hid RO.out.lt_
      replace RO := Lib.hid (RO.out.chg hc (by simp))
      replace RE := Lib.hid (RE.out.chg hc)
      have S2 := Lib.hid hc.size
      replace RC := Lib.hid (RC.out.trans hc)
      clear hA hnA hc e0 e1 e2 e4
      refine hK.out _ _ (DX.out _ RC.out) (fun hHeld => ?_)
      clear hK K
      try simp only [Act.put, sA, s0, s1]
      refine sy 12 23 rfl rfl ?_
      try simp only [Act.put, sA, s0, s1]
      refine wpAnyH_ready (rs := [13]) (by kernel_rfl) (by simp) ?_
      refine AllReadyH.cons rfl (fun K hK => ?_) AllReadyH.nil
      replace hK := Lib.hid hK
      go_simp
      try rw [← E0.out]
      obtain ⟨w3, hw, hc, b3⟩ := news1 w2 (.cells #[.string X.p, .int .i64 X.k, .int .i64 X.m, .slice X.A X.l X.c] 55)
      rw [← hw]
      have R3 := Lib.hid (rd_oneEn b3)
      replace RO := Lib.hid (RO.out.chg hc (by simp))
      replace RE := Lib.hid (RE.out.chg hc)
      replace XR := Lib.hid (XR.out.chg hc)
      have S3 := Lib.hid hc.size
      replace RC := Lib.hid (RC.out.trans hc)
      clear hw hc b3
      refine hK.out _ _ (DX.out _ RC.out) (fun hHeld => ?_)
      clear hK K
      try simp only [Act.put, sA, s0, s1]
      refine wpAnyH_ready (rs := [14]) (by kernel_rfl) (by simp) ?_
      refine AllReadyH.cons rfl (fun K hK => ?_) AllReadyH.nil
      replace hK := Lib.hid hK
      have N4 : Hid ((ys.length + 1) * 400 ≤ 140737488355327) := Lib.hid (by have := YL.out; have := HN.out; omega)
      refine step_appK (R := enTy) rfl (.tmp 11) (.tmp 24) rfl rfl (A := A1) (B := some ⟨w2.heap.size, 0, none⟩) (n := ys.length) (m := 1) (c := d1) (d := 1) (xs := ys) (ys := [X]) RO.out rfl rfl R3.out N4.out ?_
      intro A7 c7 w7 o7 g7 e7
      have O7 := Lib.hid o7
      have F7 := Lib.hid (fresh_appN RN.out RC.out g7 e7)
      have G7 := Lib.hid g7
      have E7 := Lib.hid e7
      clear o7 g7 e7
      refine hK.out _ _ (DX.out _ F7.out.2) (fun hHeld => ?_)
      clear hK K
      try simp only [Act.put, sA, s0, s1]
      refine sy 15 3 rfl rfl ?_
      try simp only [Act.put, sA, s0, s1]
      refine wpAnyH_done (by kernel_rfl) ?_ _
      clear hHeld
      have CG : Hid (Chg (blkOf A1) w3 w7) := Lib.hid ((Chg.refl (blkOf A1) w3).grown G7.out (fun i hi => by
        cases A1 with
        | none => simp at hi
        | some a => simp at hi; subst hi; exact .inl (mem_blkOf rfl)))
      have RE7 : Hid (EnsR w7 (ys ++ [X]) (es.take (k + 1))) := Lib.hid (by
        rw [ET.out]
        refine EnsR.snoc (RE.out.chgS CG.out (fun y hy a ha q => ?_)) (XR.out.chgS CG.out (fun a ha q => ?_))
        · obtain ⟨b, hb, e⟩ := of_blkOf q; exact (RA.out y hy a ha).2 b hb e.symm
        · obtain ⟨b, hb, e⟩ := of_blkOf q; have := LA1.out b hb; have := (KA.out a ha).2; omega)
      have RA7 : Hid (ApartN w7 A7 (ys ++ [X])) := Lib.hid (fun y hy => by
        have s7 := CG.out.size
        have s3 := S3.out
        have s2 := S2.out
        have lo : ∀ a : Addr, a.block < w3.heap.size → (∀ b, A1 = some b → a.block ≠ b.block) → a.block < w7.heap.size ∧ ∀ b, A7 = some b → a.block ≠ b.block := fun a h1 h2 => ⟨by omega, fun b hb => by
          rcases E7.out with q | q
          · rw [q] at hb; exact h2 b hb
          · rw [q] at hb; cases hb; exact Nat.ne_of_lt h1⟩
        rcases List.mem_append.1 hy with r | r
        · exact fun a ha => lo a (by have := (RA.out y r a ha).1; omega) (RA.out y r a ha).2
        · simp at r
          subst r
          exact fun a ha => lo a (by have := (KA.out a ha).1; omega) (fun b hb => by have := LA1.out b hb; have := (KA.out a ha).2; omega))
      have SZ7 : (ys ++ [X]).length = ys.length + 1 := by simp
      clear CG G7 E7 RO RE RA
      go_wp2
      go_round
      case rel => exact ⟨k + 1, A7, c7, ys ++ [X], by omega, by simp [YL.out], by go_num, by simp, O7, RE7, RA7, Lib.hid F7.out.1, F7.out.2⟩
      case measure => simp [RowKit.intOf]; omega
    · obtain rfl : k = xs.length := by omega
      have i1 : ¬ (xs.length : Int) < (xs.length : Int) := by omega
      have ET : es.take xs.length = es := by rw [HX.out.1]; exact List.take_length
      rw [ET] at RE
      have YL := Lib.hid hyl
      clear hyl ET
      go_wp2
      go_ret
      exact ⟨A1, d1, ys, rfl, YL.out, RO.out, RE.out, RA.out, RN.out, RC.out⟩
end
section
open Go.RowKit Go.Lib
set_option linter.unusedSimpArgs false
set_option linter.unusedVariables false

theorem app_ownn {w w6 w7 : World} {B A2 : Option Addr} (hB : ∀ a, B = some a → w.heap.size ≤ a.block) (hC : Chg [] w w6) (d2 : w6.grownBy w7 (B.map (·.block))) (e2 : A2 = B ∨ A2 = some ⟨w6.heap.size, 0, none⟩) : (∀ a, A2 = some a → w.heap.size ≤ a.block) ∧ Chg [] w w7 := by
  refine ⟨?_, hC.grown d2 (fun i hi => ?_)⟩
  · rcases e2 with rfl | rfl
    · exact hB
    · rintro a ⟨⟩; exact hC.size
  · cases B with
    | none => simp at hi
    | some a => simp at hi; subst hi; exact .inr (hB a rfl)
end
section
open Go.RowKit Go.Lib
set_option linter.unusedSimpArgs false
set_option linter.unusedVariables false

def AtU (f p : List UInt8) : Prop := p = f ∨ underL f p = true
instance (f p : List UInt8) : Decidable (AtU f p) := by unfold AtU; exact inferInstance
theorem mvP_yes {f g p : List UInt8} (h : AtU f p) : mvP f g p = g ++ p.drop f.length := if_pos h
theorem mvP_no {f g p : List UInt8} (h : ¬ AtU f p) : mvP f g p = p := if_neg h
theorem atU_split {f p : List UInt8} (h : AtU f p) : ∃ d, p = f ++ d ∧ (d = [] ∨ ∃ r, d = 47 :: r) := by
  rcases h with rfl | h
  · exact ⟨[], by simp, .inl rfl⟩
  · obtain ⟨_, _, d, rfl⟩ := under_split h
    exact ⟨47 :: d, rfl, .inr ⟨d, rfl⟩⟩
theorem mvP_app {f g d : List UInt8} (h : AtU f (f ++ d)) : mvP f g (f ++ d) = g ++ d := by
  rw [mvP_yes h, List.drop_left]
theorem mv_at {f g p : List UInt8} (h : AtU f p) (hg : okP g = true) (ho : okP (mvP f g p) = true) : AtU g (mvP f g p) := by
  obtain ⟨d, rfl, hd⟩ := atU_split h
  rw [mvP_app h] at ho ⊢
  rcases hd with rfl | ⟨r, rfl⟩
  · exact .inl (by simp)
  · exact .inr (under_of hg ho)
theorem mv_back {f g p : List UInt8} (h : AtU f p) (hg : okP g = true) (ho : okP (mvP f g p) = true) : mvP g f (mvP f g p) = p := by
  have a := mv_at h hg ho
  obtain ⟨d, rfl, hd⟩ := atU_split h
  rw [mvP_app h] at a ⊢
  rw [mvP_app a]
section
variable {t : List EnP} {f g : List UInt8} (h : TabOk t) (hf : getT t f ≠ none) (hg : getT t g = none) (hgo : okP g = true) (hl : ¬ AtU f g) (hpar : parT t g = 0) (hok : ∀ e ∈ t, okP (mvP f g e.p) = true)
include h hf hg hgo hl hok
theorem mv_inj {a b : EnP} (ha : a ∈ t) (hb : b ∈ t) (e : mvP f g a.p = mvP f g b.p) : a = b := by
  have _ := hf
  have _ := hl
  have no : ∀ x ∈ t, ¬ AtU g x.p := fun x hx q => q.elim (fun r => get_none.1 hg x hx r) (fun r => by rw [none_under h hg x hx] at r; cases r)
  have key : a.p = b.p := by
    by_cases p : AtU f a.p <;> by_cases q : AtU f b.p
    · have := congrArg (mvP g f) e
      rwa [mv_back p hgo (hok a ha), mv_back q hgo (hok b hb)] at this
    · have r := mv_at p hgo (hok a ha)
      rw [e, mvP_no q] at r
      exact absurd r (no b hb)
    · have r := mv_at q hgo (hok b hb)
      rw [← e, mvP_no p] at r
      exact absurd r (no a ha)
    · rwa [mvP_no p, mvP_no q] at e
  exact same_path h.2.1 ha hb key
theorem mv_apart : (t.map (mvE f g)).Pairwise (fun a b => a.p ≠ b.p) := by
  rw [List.pairwise_map]
  refine h.2.1.imp_of_mem (fun {a b} ha hb hlt e => ?_)
  have := mv_inj h hf hg hgo hl hok ha hb e
  rw [this] at hlt
  exact ltT_irr b hlt
end
end
section
open Go.RowKit Go.Sort
set_option linter.unusedSimpArgs false
set_option linter.unusedVariables false
section
variable {α : Type} [Inhabited α] {R : RowTy α}

theorem flatK_flat (d : Array α) : (flatK R.enc R.k d).toList = R.flat d.toList := by
  refine R.flat_ext _ _ (by simp) ?_
  intro q i x hx hi
  rw [Array.getElem?_toList] at hx ⊢
  have hq : q < d.size := (Array.getElem?_eq_some_iff.1 hx).1
  have hlt : q * R.k + i < d.size * R.k := by
    have := Nat.mul_le_mul_right R.k (show q + 1 ≤ d.size by omega)
    rw [Nat.succ_mul] at this
    omega
  have e := get_flatK R.enc R.k d (q * R.k + i) hlt
  have h1 : (q * R.k + i) / R.k = q := by
    rw [Nat.add_comm, Nat.add_mul_div_right _ _ R.kpos, Nat.div_eq_of_lt hi, Nat.zero_add]
  have h2 : (q * R.k + i) % R.k = i := by rw [Nat.add_comm, Nat.add_mul_mod_self_right, Nat.mod_eq_of_lt hi]
  rw [h1, h2] at e
  have hd : d[q]! = x := by
    rw [getElem!_pos d q hq]
    rw [Array.getElem?_eq_getElem hq] at hx
    exact Option.some.inj hx
  rw [hd] at e
  have hs : q * R.k + i < (flatK R.enc R.k d).size := by simpa using hlt
  rw [getElem!_pos (flatK R.enc R.k d) _ hs] at e
  have hi2 : i < (R.enc x).length := by rw [R.klen]; exact hi
  rw [getElem!_pos (R.enc x) _ hi2] at e
  rw [Array.getElem?_eq_getElem hs, List.getElem?_eq_getElem hi2, e]
theorem OwnK.holds {w : World} {g c : Nat} {xs : List α} (h : OwnK R w (some ⟨g, 0, none⟩) c xs) : HoldsK R.enc R.k w g 0 xs.toArray := by
  rcases h with ⟨h, _⟩ | ⟨g', full, h, hg, hl, _, hn, ht⟩
  · cases h
  · cases h
    intro j hj
    refine ⟨?_, free_of hg _⟩
    rw [Nat.zero_add, cell_of hg]
    have hs : j < (flatK R.enc R.k xs.toArray).size := hj
    rw [getElem!_pos (flatK R.enc R.k xs.toArray) _ hs]
    have e := flatK_flat (R := R) xs.toArray
    simp only at e
    have e2 : (flatK R.enc R.k xs.toArray)[j]? = (R.flat xs)[j]? := by rw [← Array.getElem?_toList, e]
    rw [Array.getElem?_eq_getElem hs] at e2
    have e3 : (R.flat full)[j]? = (R.flat xs)[j]? := by
      have hj2 : j < xs.length * R.k := by simpa using hj
      conv => rhs; rw [← ht, R.flat_take, List.getElem?_take, if_pos hj2]
    show (R.flat full).toArray[j]? = some (id _)
    rw [List.getElem?_toArray, e3, ← e2]
    rfl
theorem putCells_flat (xs ys full : List α) (hl : ys.length = xs.length) (hf : full.take xs.length = xs) (hn : xs.length ≤ full.length) :
    (putCells id 0 (flatK R.enc R.k ys.toArray) (R.flat full).toArray) = (R.flat (ys ++ full.drop xs.length)).toArray := by
  apply Array.toList_inj.1
  apply List.ext_getElem?
  intro p
  have hsz : (flatK R.enc R.k ys.toArray).size = xs.length * R.k := by simp [hl]
  rw [show (R.flat (ys ++ full.drop xs.length)).toArray.toList = R.flat (ys ++ full.drop xs.length) by simp, R.flat_app, R.flat_drop]
  rw [Array.getElem?_toList]
  unfold putCells
  rw [Array.getElem?_mapIdx, List.getElem?_toArray]
  by_cases hp : p < xs.length * R.k
  · have hs : p < (flatK R.enc R.k ys.toArray).size := by omega
    have hp2 : p < (R.flat full).length := by rw [R.flat_len]; exact Nat.lt_of_lt_of_le hp (Nat.mul_le_mul_right _ hn)
    rw [List.getElem?_append_left (by rw [R.flat_len, hl]; exact hp), List.getElem?_eq_getElem hp2]
    simp only [Option.map_some, Nat.zero_le, true_and, Nat.zero_add]
    rw [if_pos hs, Nat.sub_zero, getElem!_pos (flatK R.enc R.k ys.toArray) _ hs]
    have e := flatK_flat (R := R) ys.toArray
    have e2 : (flatK R.enc R.k ys.toArray)[p]? = (R.flat ys)[p]? := by rw [← Array.getElem?_toList, e]
    rw [← e2, Array.getElem?_eq_getElem hs]
    rfl
  · rw [List.getElem?_append_right (by rw [R.flat_len, hl]; omega), R.flat_len, hl, List.getElem?_drop, show xs.length * R.k + (p - xs.length * R.k) = p by omega]
    cases (R.flat full)[p]? with
    | none => rfl
    | some v =>
      simp only [Option.map_some]
      rw [if_neg (by rw [hsz]; omega)]
theorem OwnK.sorted {w : World} {g c : Nat} {xs ys : List α} (h : OwnK R w (some ⟨g, 0, none⟩) c xs) (hl : ys.length = xs.length) (n : Nat) (os : Array Obj) :
    OwnK R (sortWorldK R.enc R.k w g 0 n ys.toArray os) (some ⟨g, 0, none⟩) c ys ∧ Chg [g] w (sortWorldK R.enc R.k w g 0 n ys.toArray os) := by
  rcases h with ⟨h, _⟩ | ⟨g', full, h, hg, hfl, hm, hn, ht⟩
  · cases h
  · cases h
    have hsz : (sortWorldK R.enc R.k w g 0 n ys.toArray os).heap = (w.heap.modify g (onCells (putCells id 0 (flatK R.enc R.k ys.toArray)))) ++ os := rfl
    have hgl := lt_of_heap hg
    refine ⟨.inr ⟨g, ys ++ full.drop xs.length, rfl, ?_, by simp; omega, hm, by omega, ?_⟩, ⟨rfl, rfl, rfl, by rw [hsz]; simp, fun i hi hne => ?_⟩⟩
    · rw [hsz, Array.getElem?_append_left (by simpa using hgl), Array.getElem?_modify, if_pos rfl, hg]
      simp only [Option.map_some, onCells]
      rw [putCells_flat xs ys full hl ht (by omega)]
    · exact List.take_left
    · rw [hsz, Array.getElem?_append_left (by simpa using hi), Array.getElem?_modify, if_neg (by simp at hne; exact fun h => hne h.symm)]
end
end
section
open Go.RowKit
set_option linter.unusedSimpArgs false
set_option linter.unusedVariables false



set_option maxRecDepth 100000 in
set_option maxHeartbeats 4000000 in
theorem genSplit_d (w : World) (l : List UInt8) (hlen : l.length ≤ 10000000) :
    Calls Tryz.prog 131 #[.string (strOf l), .string ⟨#[47]⟩, .int .i64 0, .int .i64 (-1)] w fun e w' => e = .returned (.slice (some ⟨w.heap.size, 0, none⟩) (cutL l).length (cutL l).length) ∧ w'.heap[w.heap.size]? = some (.cells ((cutL l).map tv).toArray 9 (0, 0)) ∧ (Chg [] w w' ∧ w.drawn ≤ w'.drawn) := by
  obtain ⟨N, hN⟩ : ∃ N, (cutL l).length = N := ⟨_, rfl⟩
  have hcn : l.count 47 + 1 = N := by rw [← hN]; exact (cutA_count l []).symm
  have hNl : N ≤ l.length + 1 := by rw [← hN]; exact cutA_len l []
  have hs := strOf_size l
  have HN := Lib.hid hN
  have HCN := Lib.hid hcn
  rw [hN]
  have hN1 : ((l.count 47 : Nat) : Int) + 1 = (N : Int) := by omega
  have k1 : IntKind.i64.wrap ((N : Int)) = (N : Int) := IntWalk.i64_in _ (by omega)
  have k2 : IntKind.i64.wrap ((N : Int) - 1) = (N : Int) - 1 := IntWalk.i64_in _ (by omega)
  have hmk := fun W => run_mkT N (by omega) W
  have C1 := Lib.hid (fun w => strcount_any w l)
  generalize hcc : ((l.count 47 : Nat) : Int) = cc at *
  have hmin : min (N : Int) ((l.length : Int) + 1) = (N : Int) := by omega
  have hN0 : 1 ≤ N := by have := HCN.out; omega
  obtain ⟨w5, hw5, c5, b5⟩ := news1 w (.cells (Array.replicate N (tv [])) 9)
  have W5 := Lib.hid hw5
  have B5 := Lib.hid (show w5.heap[w.heap.size]? = some (.cells ((List.replicate N []).map tv).toArray 9 (0, 0)) by rw [List.map_replicate, List.toArray_replicate]; exact b5)
  have C5 := Lib.hid (show Chg [] w w5 ∧ w.drawn ≤ w5.drawn from ⟨c5, by rw [hw5]; exact Nat.le_refl _⟩)
  clear hN hcn hw5 c5 b5
  go_enter Tryz.func131, Tryz.ntmps131
  go_wp2_with fail
  refine (C1.out _).mono ?_
  rintro e w1 ⟨rfl, rfl⟩
  go_wp2
  rw [← W5.out]
  go_loopw [0, 10, 11] (fun v0 v10 v11 wr => ∃ (pre : List (List UInt8)) (rest : List UInt8), v0 = .string (strOf rest) ∧ v10 = .int .i64 (pre.length : Int) ∧ Hid (pre ++ cutA [] rest = cutL l ∧ rest.length ≤ l.length ∧ pre.length + rest.count 47 + 1 = N) ∧
      Hid (wr.heap[w1.heap.size]? = some (.cells ((pre ++ List.replicate (N - pre.length) []).map tv).toArray 9 (0, 0)) ∧ (Chg [] w1 wr ∧ w1.drawn ≤ wr.drawn))) (fun _ v10 _ _ => N - (RowKit.intOf v10).toNat)
  case atStart => exact ⟨[], l, rfl, rfl, ⟨rfl, Nat.le_refl _, by have := HCN.out; simp; omega⟩, by simpa using B5.out, C5.out⟩
  case round =>
    obtain ⟨pre, rest, rfl, rfl, HP, HI⟩ := hrel
    rcases at47 rest with hno | ⟨a, b, rfl, hno⟩
    · have hc0 : rest.count 47 = 0 := List.count_eq_zero.2 hno
      have hpl : pre.length + 1 = N := by have := HP.out.2.2; omega
      have i1 : ¬ ((pre.length : Int) < (N : Int) - 1) := by omega
      have i2 : (pre.length : Int) < (N : Int) := by omega
      have i3 : (0 : Int) ≤ (pre.length : Int) := by omega
      have i4 : (pre.length : Int) + 1 ≤ (N : Int) := by omega
      have k3 : IntKind.i64.wrap ((pre.length : Int) + 1) = (pre.length : Int) + 1 := IntWalk.i64_in _ (by omega)
      have hcut := HP.out.1
      rw [cutA_no _ _ hno, List.nil_append] at hcut
      have hq := HI.out.1
      rw [show N - pre.length = 0 + 1 by omega] at hq
      have f0 := free_of hq pre.length
      have q1 := heap_setCell_same wr w1.heap.size pre.length _ _ (.string (strOf rest)) hq
      rw [row_set, List.replicate_zero, List.append_nil, hcut] at q1
      have Q1 := Lib.hid q1
      have CW := Lib.hid (show Chg [] w1 (wr.setCell ⟨w1.heap.size, pre.length, none⟩ (.string (strOf rest))) ∧ w1.drawn ≤ (wr.setCell ⟨w1.heap.size, pre.length, none⟩ (.string (strOf rest))).drawn from ⟨HI.out.2.1.setCell (p := ⟨w1.heap.size, pre.length, none⟩) (.inr (Nat.le_refl _)) (.string (strOf rest)), HI.out.2.2⟩)
      have z : ∃ u, wr.cell? ⟨w1.heap.size, pre.length, none⟩ = some u := ⟨.string (strOf []), by rw [cell_of hq]; simp [tv]⟩
      obtain ⟨u, z⟩ := z
      clear hq q1 hcut hno hc0
      go_wp2
      go_ret
      exact ⟨rfl, Q1.out, CW.out⟩
    · have hcb : (a ++ 47 :: b).count 47 = b.count 47 + 1 := by
        rw [List.count_append, List.count_eq_zero.2 hno]
        simp
      have hpl : pre.length + b.count 47 + 2 = N := by have := HP.out.2.2; omega
      have ez : (strOf (a ++ 47 :: b)).size = a.length + 1 + b.length := by rw [strOf_size]; simp; omega
      have hrl' : a.length + 1 + b.length ≤ l.length := by have := HP.out.2.1; rw [← strOf_size, ez] at this; exact this
      have i0 : (0 : Int) ≤ (a.length : Int) := by omega
      have i1 : (pre.length : Int) < (N : Int) - 1 := by omega
      have i2 : (pre.length : Int) < (N : Int) := by omega
      have i3 : (0 : Int) ≤ (pre.length : Int) := by omega
      have i5 : ¬ ((a.length : Int) < 0) := by omega
      have i6 : (a.length : Int) ≤ ((strOf (a ++ 47 :: b)).size : Int) := by rw [ez]; omega
      have i7 : (a.length : Int) + 1 ≤ ((strOf (a ++ 47 :: b)).size : Int) := by rw [ez]; omega
      have i8 : a.length + 1 ≤ 140737488351232 := by omega
      have k3 : IntKind.i64.wrap ((pre.length : Int) + 1) = (pre.length : Int) + 1 := IntWalk.i64_in _ (by omega)
      have e1 : (strOf (a ++ 47 :: b)).extract 0 a.length = strOf a := by rw [strOf_ext]; simp
      have e2 : (strOf (a ++ 47 :: b)).extract (a.length + 1) (a.length + 1 + b.length) = strOf b := by
        rw [strOf_ext]
        congr 1
        rw [show (a ++ 47 :: b).drop (a.length + 1) = b by rw [show a ++ 47 :: b = (a ++ [47]) ++ b by simp]; exact List.drop_left' (by simp)]
        exact List.take_of_length_le (by omega)
      have hcut := HP.out.1
      rw [cutA_at _ _ _ hno, List.nil_append] at hcut
      have hq := HI.out.1
      rw [show N - pre.length = (N - (pre.length + 1)) + 1 by omega] at hq
      have f0 := free_of hq pre.length
      have q1 := heap_setCell_same wr w1.heap.size pre.length _ _ (.string (strOf a)) hq
      rw [row_set] at q1
      have Q1 := Lib.hid q1
      have CW := Lib.hid (show Chg [] w1 (wr.setCell ⟨w1.heap.size, pre.length, none⟩ (.string (strOf a))) ∧ w1.drawn ≤ (wr.setCell ⟨w1.heap.size, pre.length, none⟩ (.string (strOf a))).drawn from ⟨HI.out.2.1.setCell (p := ⟨w1.heap.size, pre.length, none⟩) (.inr (Nat.le_refl _)) (.string (strOf a)), HI.out.2.2⟩)
      have z : ∃ u, wr.cell? ⟨w1.heap.size, pre.length, none⟩ = some u := ⟨.string (strOf []), by rw [cell_of hq]; simp [tv, List.replicate_succ]⟩
      obtain ⟨u, z⟩ := z
      have CI := Lib.hid (fun w => index_at w a b hno)
      have HQ := Lib.hid hcut
      have HPL := Lib.hid hpl
      clear hq q1 hcut hno hcb hpl
      go_wp2_with fail
      refine (CI.out _).mono ?_
      rintro e w2 ⟨rfl, rfl⟩
      go_wp2
      refine ⟨⟨pre ++ [a], b, ?_, by simp, ⟨by rw [← HQ.out]; simp, by omega, by have := HPL.out; simp; omega⟩, ⟨by have := Q1.out; simpa using this, CW.out⟩⟩, by simp [RowKit.intOf]; omega⟩
      first | rfl | (rw [e2]) | (simp only [ez, e2])

theorem split_d (w : World) (l : List UInt8) (hlen : l.length ≤ 10000000) :
    Calls Tryz.prog 104 #[.string (strOf l), .string ⟨#[47]⟩] w fun e w' => e = .returned (.slice (some ⟨w.heap.size, 0, none⟩) (cutL l).length (cutL l).length) ∧ w'.heap[w.heap.size]? = some (.cells ((cutL l).map tv).toArray 9 (0, 0)) ∧ (Chg [] w w' ∧ w.drawn ≤ w'.drawn) := by
  have CG := Lib.hid (fun w => genSplit_d w l hlen)
  generalize cutL l = xs at *
  go_enter Tryz.func104, Tryz.ntmps104
  go_wp2_with fail
  refine (CG.out _).mono ?_
  rintro e w1 ⟨rfl, hq, hc⟩
  have HQ := Lib.hid hq
  clear hq
  go_wp2
  go_ret
  exact ⟨rfl, HQ.out, hc⟩

set_option maxHeartbeats 2000000 in
theorem phcompare_d (w : World) (a b : List UInt8) (ha : a.length ≤ 10000000) (hb : b.length ≤ 10000000) :
    Calls Tryz.prog 75 #[.string (strOf a), .string (strOf b)] w fun e w' => e = .returned (.int .i64 (cmpT (cutL a) (cutL b))) ∧ (Chg [] w w' ∧ w.drawn ≤ w'.drawn) := by
  by_cases hab : a = b
  · subst hab
    rw [cmpT_self]
    have h1 : (a == a) = true := by simp
    go_enter Tryz.func75, Tryz.ntmps75
    go_wp2
    go_ret
    exact ⟨rfl, Chg.refl _ _, Nat.le_refl _⟩
  · have h1 : (a == b) = false := by simpa using hab
    have h2 := str_ne hab
    have S1 := Lib.hid (fun w => split_d w a ha)
    have S2 := Lib.hid (fun w => split_d w b hb)
    have L1 := Lib.hid (show (cutL a).length ≤ 100000000 by have := cutA_len a []; show (cutA [] a).length ≤ _; omega)
    have L2 := Lib.hid (show (cutL b).length ≤ 100000000 by have := cutA_len b []; show (cutA [] b).length ≤ _; omega)
    generalize cutL a = xs at *
    generalize cutL b = ys at *
    go_enter Tryz.func75, Tryz.ntmps75
    go_wp2_with fail
    refine (S1.out _).mono ?_
    rintro e w1 ⟨rfl, hq1, hc1⟩
    have Q1 := Lib.hid hq1
    have C1 := Lib.hid hc1
    have hg := lt_of_heap hq1
    clear hq1 hc1
    go_wp2_with fail
    refine (S2.out _).mono ?_
    rintro e w2 ⟨rfl, hq2, hc2⟩
    have RA := Lib.hid (rd_text (hc2.1.at_ Q1.out (by simp)) (by have := L1.out; unfold maxLen; omega))
    have RB := Lib.hid (rd_text hq2 (by have := L2.out; unfold maxLen; omega))
    have C2 := Lib.hid (show Chg [] w w2 ∧ w.drawn ≤ w2.drawn from ⟨C1.out.1.trans hc2.1, Nat.le_trans C1.out.2 hc2.2⟩)
    clear hq2 hc2
    go_wp2_with fail
    refine (compareFunc_any _ _ _ _ _ xs ys RA.out RB.out L1.out L2.out).mono ?_
    rintro e w3 ⟨rfl, rfl⟩
    go_wp2
    go_ret
    exact ⟨rfl, C2.out⟩
end
section
open Go.Lib
set_option linter.unusedSimpArgs false
set_option linter.unusedVariables false
structure OrdT {α : Type} (lt : α → α → Bool) : Prop where
  irr : ∀ x, lt x x = false
  tr : ∀ x y z, lt x y = true → lt y z = true → lt x z = true
  conn : ∀ x y, lt x y = false → lt y x = false → x = y
section
variable {α : Type} {lt : α → α → Bool}
/-- Rising. -/
def RiseT (lt : α → α → Bool) (l : List α) : Prop := l.Pairwise fun x y => lt x y = true
theorem rise_ext (O : OrdT lt) : ∀ {l m : List α}, RiseT lt l → RiseT lt m → (∀ x, x ∈ l ↔ x ∈ m) → l = m
  | [], [], _, _, _ => rfl
  | [], y :: m, _, _, h => absurd ((h y).2 (by simp)) (by simp)
  | x :: l, [], _, _, h => absurd ((h x).1 (by simp)) (by simp)
  | x :: l, y :: m, hl, hm, h => by
    unfold RiseT at hl hm
    rw [List.pairwise_cons] at hl hm
    have ir : ∀ {a}, ¬ lt a a = true := fun {a} h => by rw [O.irr] at h; cases h
    have hxy : x = y := by
      have h1 := (h x).1 (by simp)
      have h2 := (h y).2 (by simp)
      rw [List.mem_cons] at h1 h2
      rcases h1 with h1 | h1
      · exact h1
      · rcases h2 with h2 | h2
        · exact h2.symm
        · exact absurd (O.tr _ _ _ (hm.1 x h1) (hl.1 y h2)) ir
    subst hxy
    congr 1
    refine rise_ext O hl.2 hm.2 fun z => ?_
    have := h z
    rw [List.mem_cons, List.mem_cons] at this
    constructor
    · intro hz
      rcases this.1 (.inr hz) with e | e
      · subst e; exact absurd (hl.1 z hz) ir
      · exact e
    · intro hz
      rcases this.2 (.inr hz) with e | e
      · subst e; exact absurd (hm.1 z hz) ir
      · exact e
/-- How many of a list come ahead. -/
def cntT (lt : α → α → Bool) (x : α) : List α → Nat
  | [] => 0
  | y :: l => if lt y x then cntT lt x l + 1 else 0
theorem cntT_le (x : α) : ∀ l, cntT lt x l ≤ l.length
  | [] => Nat.le_refl _
  | y :: l => by unfold cntT; split <;> have := cntT_le x l <;> simp <;> omega
theorem cntT_lt (x : α) : ∀ (l : List α) (i : Nat) (y : α), l[i]? = some y → i < cntT lt x l → lt y x = true
  | [], i, y, h, _ => by simp at h
  | z :: l, 0, y, h, hi => by
    simp at h; subst h
    unfold cntT at hi
    split at hi
    · assumption
    · omega
  | z :: l, i + 1, y, h, hi => by
    unfold cntT at hi
    split at hi
    · exact cntT_lt x l i y (by simpa using h) (by omega)
    · omega
theorem cntT_at (x : α) : ∀ (l : List α) (y : α), l[cntT lt x l]? = some y → lt y x = false
  | [], y, h => by simp at h
  | z :: l, y, h => by
    unfold cntT at h
    split at h
    · exact cntT_at x l y (by simpa using h)
    · rename_i hz
      simp at h; subst h; simpa using hz
theorem cntT_is (x : α) (l : List α) (k : Nat) (h1 : ∀ i y, l[i]? = some y → i < k → lt y x = true) (hk : k ≤ l.length) (h2 : ∀ y, l[k]? = some y → lt y x = false) : cntT lt x l = k := by
  rcases Nat.lt_trichotomy (cntT lt x l) k with h | h | h
  · have hlt : cntT lt x l < l.length := by omega
    have a := h1 _ _ (List.getElem?_eq_getElem hlt) h
    rw [cntT_at x l _ (List.getElem?_eq_getElem hlt)] at a
    cases a
  · exact h
  · have hlt : k < l.length := by have := cntT_le (lt := lt) x l; omega
    have a := cntT_lt x l k _ (List.getElem?_eq_getElem hlt) h
    rw [h2 _ (List.getElem?_eq_getElem hlt)] at a
    cases a
section
variable [DecidableEq α]
/-- One more, if it is not there. -/
def insT (lt : α → α → Bool) (x : α) (l : List α) : List α :=
  if l[cntT lt x l]? = some x then l else l.take (cntT lt x l) ++ x :: l.drop (cntT lt x l)
theorem insT_len (x : α) (l : List α) : (insT lt x l).length ≤ l.length + 1 := by
  unfold insT
  have := cntT_le (lt := lt) x l
  split <;> simp <;> omega
theorem insT_mem (x y : α) (l : List α) : y ∈ insT lt x l ↔ y = x ∨ y ∈ l := by
  unfold insT
  split
  · rename_i h
    constructor
    · exact .inr
    · rintro (rfl | h2)
      · exact List.mem_of_getElem? h
      · exact h2
  · rw [List.mem_append, List.mem_cons]
    conv => rhs; rw [← List.take_append_drop (cntT lt x l) l, List.mem_append]
    constructor
    · rintro (h | h | h)
      · exact .inr (.inl h)
      · exact .inl h
      · exact .inr (.inr h)
    · rintro (h | h | h)
      · exact .inr (.inl h)
      · exact .inl h
      · exact .inr (.inr h)
theorem insT_rise (O : OrdT lt) (x : α) (l : List α) (h : RiseT lt l) : RiseT lt (insT lt x l) := by
  unfold insT
  split
  · exact h
  · rename_i hne
    have hs : RiseT lt (l.take (cntT lt x l) ++ l.drop (cntT lt x l)) := by rw [List.take_append_drop]; exact h
    unfold RiseT at *
    rw [List.pairwise_append] at hs ⊢
    obtain ⟨a, b, c⟩ := hs
    have hd : ∀ y ∈ l.drop (cntT lt x l), lt x y = true := by
      cases hdr : l.drop (cntT lt x l) with
      | nil => simp
      | cons z r =>
        have hz : l[cntT lt x l]? = some z := by
          have := List.getElem?_drop (xs := l) (i := cntT lt x l) (j := 0)
          rw [hdr] at this
          simpa using this.symm
        have h1 := cntT_at x l z hz
        have hxz : lt x z = true := by
          cases hc : lt x z with
          | true => rfl
          | false => exact absurd (by rw [hz, O.conn _ _ h1 hc]) hne
        rw [hdr, List.pairwise_cons] at b
        intro y hy
        rcases List.mem_cons.1 hy with rfl | hy
        · exact hxz
        · exact O.tr _ _ _ hxz (b.1 y hy)
    have ht : ∀ y ∈ l.take (cntT lt x l), lt y x = true := by
      intro y hy
      obtain ⟨i, hi, e⟩ := List.getElem_of_mem hy
      rw [List.length_take] at hi
      rw [List.getElem_take] at e
      subst e
      exact cntT_lt x l i _ (List.getElem?_eq_getElem (by omega)) (by omega)
    refine ⟨a, ?_, ?_⟩
    · rw [List.pairwise_cons]; exact ⟨hd, b⟩
    · intro y hy z hz
      rcases List.mem_cons.1 hz with rfl | hz
      · exact ht y hy
      · exact c y hy z hz
/-- All of a list, one by one. -/
def insAllT (lt : α → α → Bool) (xs : List α) : List α := xs.foldl (fun l x => insT lt x l) []
theorem insAllT_snoc (xs : List α) (x : α) : insAllT lt (xs ++ [x]) = insT lt x (insAllT lt xs) := by simp [insAllT]
theorem insAllT_props (O : OrdT lt) (xs : List α) : RiseT lt (insAllT lt xs) ∧ (∀ x, x ∈ insAllT lt xs ↔ x ∈ xs) ∧ (insAllT lt xs).length ≤ xs.length := by
  have : ∀ m : List α, RiseT lt (insAllT lt m.reverse) ∧ (∀ x, x ∈ insAllT lt m.reverse ↔ x ∈ m.reverse) ∧ (insAllT lt m.reverse).length ≤ m.length := by
    intro m
    induction m with
    | nil => simp [insAllT, RiseT]
    | cons y m ih =>
      rw [List.reverse_cons, insAllT_snoc]
      refine ⟨insT_rise O _ _ ih.1, fun x => ?_, ?_⟩
      · rw [insT_mem, ih.2.1, List.mem_append, List.mem_singleton]
        constructor
        · rintro (h | h); exact .inr h; exact .inl h
        · rintro (h | h); exact .inr h; exact .inl h
      · have := insT_len (lt := lt) y (insAllT lt m.reverse)
        simp; omega
  have h := this xs.reverse
  rw [List.reverse_reverse, List.length_reverse] at h
  exact h
end
end
end
end Go.Proofs.YtimdfpejgaidhaaGreatDoor
